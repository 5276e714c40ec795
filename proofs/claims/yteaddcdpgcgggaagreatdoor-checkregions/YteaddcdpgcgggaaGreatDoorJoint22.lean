import Derived.Test.YteaddcdpgcgggaaGreatDoorJoint21
import Derived.Test.YteaddcdpgcgggaaGreatDoorJoint13
import Derived.Test.YteaddcdpgcgggaaGreatDoorJoint12
import Derived.Deep.Slices
import Derived.Deep.Grids
import Derived.Lib.SmallJoins
namespace Go.Proofs.YteaddcdpgcgggaaGreatDoor
set_option linter.unusedVariables false
set_option maxRecDepth 100000
set_option maxHeartbeats 40000000
section
open Go.ChangeShapes Go.WideShapes Go.ChangeAt Go.RowKit Go.MapKept
theorem kX(n:Nd)(A:Option Addr)(C:Nat)(w:World)(h:jZ w n A C)(hl:J4 n)(hfew:n.l.length≤5000):Calls Tryz.prog 8 #[.agg (qD n (.slice A n.l.length C))] w λe w'=>Below w.heap.size w w'∧Q0 w.heap.size (vk n) e w':=by
 obtain⟨L,hL⟩:∃L,L=n.l.length:=⟨_,rfl⟩
 have HL:=ze hL
 obtain⟨W2,hW2⟩:∃W2,W2=(w.alloc (.cells #[.string (bs n.op),.string (bs n.s),.int .i64 n.n,.int .i64 n.a,.slice A L C] 24)).alloc (.cells #[.slice none 0 0,.int .i64 0,.slice none 0 0,.int .i64 0,.bool false] 32):=⟨_,rfl⟩
 have hb2:Below w.heap.size w W2:=by rw[hW2];exact yr w _ _
 have N2:zm W2 w.heap.size 24 #[.string (bs n.op),.string (bs n.s),.int .i64 n.n,.int .i64 n.a,.slice A L C]:=by rw[hW2];exact(zm.new w _ _).alloc _
 have P2:zm W2 (w.heap.size+1) 32 #[.slice none 0 0,.int .i64 0,.slice none 0 0,.int .i64 0,.bool false]:=by rw[hW2];exact zm.new_at (by simp)
 have hrt:=D9 n A C W2 (h.grow hb2);unfold zO at hrt;have HW:=ze hW2;have hlen:=h.len;have HRD:=ze h;have HST:=ze (λ(q:yP n=true)=>QA q hl)
 have HRS:=ze (λ(q:yP n=true)=>(show ∀x ∈ n.l,qS x=true from λx hx=>by
  unfold yP at q;simp only[Bool.and_eq_true,List.all_eq_true]at q
  exact q.1.1.1 x hx))
 rw[←hL]at hrt hlen hfew ⊢;rw[hW2]at hrt;clear hW2 hL h;cases hR:yP n with
 |false =>
  have HR:=ze (show vk n= .error (111,0) by unfold vk;rw[if_neg (by rw[hR];decide)]);rw[hR]at hrt;clear hR;unfold qD;go_enter Tryz.func8,Tryz.ntmps8
  go_wp2_with (first
   |((go_at_call 17)
     refine hrt.mono ?_;rintro e w3 ⟨rfl,hb3'⟩;(have hb3:Below W2.heap.size W2 w3:=by rw[HW.out];exact hb3');have P3:=P2.below hb3 P2.lt;have a0:=P3.cell 0;have a1:=P3.cell 1;have a2:=P3.cell 2;have a3:=P3.cell 3;have a4:=P3.cell 4;have f0:=P3.free 0;have f1:=P3.free 1;have f2:=P3.free 2;have f3:=P3.free 3;have f4:=P3.free 4;(have la:=P3.lt)))
  refine yD rfl rfl rfl rfl (P3.set5 _ _ _ _ _) rfl ?_;refine⟨Xn (hb2.trans (hb3.mono hb2.size)) (Nat.le_succ _) _ _ _ _ _,?_⟩;exact Q0.err HR.out _
 |true =>
  have HR:=ze (show vk n=UU n by unfold vk;rw[if_pos hR]);have HSR:=ze (HST.out hR);have HSS:=ze (HRS.out hR);rw[hR]at hrt;clear hR HST HRS;unfold qD;go_enter Tryz.func8,Tryz.ntmps8
  go_wp2_with (first
   |((go_at_call 17)
     refine hrt.mono ?_;rintro e w3 ⟨rfl,hb3'⟩;(have hb3:Below W2.heap.size W2 w3:=by rw[HW.out];exact hb3');have N3:=N2.below hb3 N2.lt;have b0:=N3.cell 0;have b1:=N3.cell 1;have b2:=N3.cell 2;have b3:=N3.cell 3;have b4:=N3.cell 4;simp only[qH,qG,qI]at b0 b1 b2 b3 b4;(have lb:=N3.lt)))
  have hb03:=hb2.trans (hb3.mono hb2.size);have P3:=P2.below hb3 P2.lt;have G5:=D0 w3;have N5:=N3.alloc (.cells #[.slice none 0 0,.int .i64 0,.slice none 0 0,.int .i64 0,.bool false,.slice none 0 0,.int .i64 0,.int .i64 0,.int .i64 0,.int .i64 0,.int .i64 0,.int .i64 0,.int .i64 0,.int .i64 0] 61);have P5:=P3.alloc (.cells #[.slice none 0 0,.int .i64 0,.slice none 0 0,.int .i64 0,.bool false,.slice none 0 0,.int .i64 0,.int .i64 0,.int .i64 0,.int .i64 0,.int .i64 0,.int .i64 0,.int .i64 0,.int .i64 0] 61);have hb5:Below w.heap.size w (w3.alloc (.cells #[.slice none 0 0,.int .i64 0,.slice none 0 0,.int .i64 0,.bool false,.slice none 0 0,.int .i64 0,.int .i64 0,.int .i64 0,.int .i64 0,.int .i64 0,.int .i64 0,.int .i64 0,.int .i64 0] 61)):=hb03.trans ((zl w3 _).mono hb03.size);have hcb:w.heap.size+2≤w3.heap.size:=by have:=P3.lt;omega
  clear hrt hb3' hb3 N3 P3 N2 P2 hb2 HW b0 b1 b2 b3 b4 lb hb03;generalize w3.heap.size=cb at *;generalize w3.alloc (.cells #[.slice none 0 0,.int .i64 0,.slice none 0 0,.int .i64 0,.bool false,.slice none 0 0,.int .i64 0,.int .i64 0,.int .i64 0,.int .i64 0,.int .i64 0,.int .i64 0,.int .i64 0,.int .i64 0] 61)=W5 at *;have HB5:=ze hb5;have hno5:∀j,j<cb→¬RV0.own cb j:=λj hj q=>by have:=(G5.low q).1;omega
  have HNO:=ze hno5;have HCB:=ze hcb;clear hno5 hb5
  go_loopw [7,8] (λz7 z8 wr=>∃(i:Nat) (V':RV),z7= .int .i64 (j6 (n.l.take i):Nat)∧z8= .int .i64 (i:Nat)∧i≤L∧zZ (λ_=>False) wr cb V' (rkD (disks 0 (n.l.take i)))∧Sp (RV0.own cb) W5 (V'.own cb) wr) (λ_ z _=>L-(intOf z).toNat)
  case atStart=>exact⟨0,RV0,by simp[j6],rfl,Nat.zero_le _,by simpa [disks]using G5,Sp.refl _ _⟩
  case round =>
   obtain⟨i,V2,rfl,rfl,hi,H2,S2⟩:=hrel;have lcb:=G5.has.lt;have hNr:=(S2.inner w.heap.size (by have:=HCB.out;omega) (HNO.out _ (by have:=HCB.out;omega))).1;have Nr:zm wr w.heap.size 24 #[.string (bs n.op),.string (bs n.s),.int .i64 n.n,.int .i64 n.a,.slice A L C]:=hNr.trans N5;have nr4:=Nr.cell 4;have nrl:=Nr.lt;simp only[qH,qG,qI]at nr4;have Br:Below w.heap.size w wr:=HB5.out.trans (S2.below HB5.out.size (λk hk=>by have:=(G5.low hk).1;have:=HCB.out;omega));have HBr:=ze Br;clear hNr Br;by_cases hlt:i<L
   ·have hil:i<n.l.length:=by rw[←HL.out];exact hlt
    obtain⟨g,off,An,Cn,eA,hg,hat,hrn⟩:=Q2.get (⟨HRD.out.rd,HBr.out⟩:Q2 w wr n.l A C) hil;subst eA
    have HGW:=ze (show g<w.heap.size from by
     obtain⟨g2,off2,u2,e2,hg2,_⟩:=HRD.out.rd.get i hil;cases e2
     exact hg2)
    have hint:(i:Int)<(L:Int):=by omega
    have hnl:=(HSR.out _ (List.getElem_mem hil)).num
    have HD:=ze (show disks 0 (n.l.take (i+1))=disks 0 (n.l.take i)++(if n.l[i].op=zn then[⟨1,n.l[i].n.toNat,[],j6 (n.l.take i),0,0,[],[]⟩]else[]) by
     rw[List.take_succ_eq_append_getElem hil,Vn,Nat.zero_add])
    have HV:=ze (show j6 (n.l.take (i+1))=j6 (n.l.take i)+(if n.l[i].op=zn∨n.l[i].op=zq then 1 else 0) by
     rw[List.take_succ_eq_append_getElem hil,Xj])
    have hdl:=gJ (n.l.take i);have hpl:=kM (n.l.take i) 0;have hil2:(n.l.take i).length≤i:=by simp;omega
    generalize n.l[i]=m at *
    obtain⟨D,hD⟩:∃D,D=j6 (n.l.take i):=⟨_,rfl⟩
    obtain⟨ps,hps⟩:∃ps,ps=disks 0 (n.l.take i):=⟨_,rfl⟩
    rw[←hD]at HD HV hdl ⊢;rw[←hps]at HD H2 hpl;have hDb:(D:Int)≤80000:=by omega
    have hpsl:ps.length≤80000:=by omega
    have a0:wr.cell? ⟨g,off+i*5,none⟩=some (.string (bs m.op)):=hat 0 (by decide);have a2:wr.cell? ⟨g,off+i*5+2,none⟩=some (.int .i64 m.n):=hat 2 (by decide);have hot:=zp m.op;have HI:=ze (show i+1≤L by omega);clear hD hps hil hat hrn hpl hdl hil2 hi;by_cases hd:m.op=zn
    ·have f0:(m.op== [100,101,118,105,99,101])=true:=by rw[hd];decide
     have hnn:=hnl (.inl hd)
     obtain⟨M,hM⟩:∃M:Nat,m.n=(M:Nat):=⟨m.n.toNat,by omega⟩
     have HE1:=ze (show disks 0 (n.l.take (i+1))=ps++ [⟨1,M,[],D,0,0,[],[]⟩] by rw[HD.out,if_pos hd,hM,Int.toNat_natCast]);have HE2:=ze (show j6 (n.l.take (i+1))=D+1 by rw[HV.out,if_pos (.inl hd)]);rw[hM]at a2;have HGL:=ze hg
     have HGV:=ze (show ¬V2.own cb g from λq=>by
      have hgw:g<w.heap.size:=HGW.out;have:=(H2.low q).1;have:=HCB.out
      omega)
     have HNV:=ze (show ¬V2.own cb w.heap.size from λq=>by have:=(H2.low q).1;have:=HCB.out;omega);have c2r:=H2.has.cell 2;simp only[vh,List.getElem?_toArray,List.getElem?_cons_zero,List.getElem?_cons_succ]at c2r;clear hd hnl hnn HD HV hM
     go_wp2_with (first
      |((with_reducible refine zi 31 rfl ?_)
        (refine zd (some 31) _ rfl (by rfl) (zu _ _ rfl g off i L C rfl rfl hlt _) ?_))
      |((with_reducible refine zi 57 rfl ?_)
        (refine zd (some 57) _ rfl (by rfl) (zu _ _ rfl g off i L C rfl rfl hlt _) ?_))
      |((with_reducible refine zi 65 rfl ?_)
        (refine zd (some 65) _ rfl (by rfl) (zu _ _ rfl g off i L C rfl rfl hlt _) ?_)))
     refine jp (S:=λwz=>wz.cell? ⟨cb,2,none⟩=some V2.vp∧wz.cell? ⟨w.heap.size,4,none⟩=some (.slice (some ⟨g,off,none⟩) L C)∧wz.cell? ⟨g,off+i*5+2,none⟩=some (.int .i64 (M:Nat))) 19 (by kernel_rfl) (⟨c2r,nr4,a2⟩) (λhHeld=>?_);refine ja 0 (some 35) (.pointer (some ⟨cb,0,none⟩)) hHeld ?_;simp only[Act.put,zh,zf,zg];refine ja 1 (some 36) (.pointer (some ⟨cb,0,none⟩)) hHeld ?_;simp only[Act.put,zh,zf,zg];refine ja 2 (some 37) (.pointer (some ⟨cb,0,none⟩)) hHeld ?_;simp only[Act.put,zh,zf,zg];refine ja 3 (some 38) (.pointer (some ⟨cb,0,none⟩)) hHeld ?_;simp only[Act.put,zh,zf,zg];refine ja 4 (some 39) (.pointer (some ⟨cb,2,none⟩)) hHeld ?_;simp only[Act.put,zh,zf,zg];refine j3 5 (some 40) (V2.vp) rfl rfl (λwz hz=>by obtain⟨z0,z1,z2⟩:=hz;unfold execOp;go_simp) hHeld ?_;simp only[Act.put,zh,zf,zg];refine ja 6 (some 41) (.pointer (some ⟨w.heap.size,4,none⟩)) hHeld ?_;simp only[Act.put,zh,zf,zg];refine j3 7 (some 42) (.slice (some ⟨g,off,none⟩) L C) rfl rfl (λwz hz=>by obtain⟨z0,z1,z2⟩:=hz;unfold execOp;go_simp) hHeld ?_;simp only[Act.put,zh,zf,zg];refine ja 8 (some 43) (.int .i64 (i:Nat)) hHeld ?_;simp only[Act.put,zh,zf,zg];refine j3 9 (some 44) (.pointer (some ⟨g,off+i*5,none⟩)) rfl rfl (λwz _=>zu _ _ rfl g off i L C rfl rfl hlt wz) hHeld ?_;simp only[Act.put,zh,zf,zg];refine ja 10 (some 45) (.pointer (some ⟨g,off+i*5+2,none⟩)) hHeld ?_;simp only[Act.put,zh,zf,zg];refine j3 11 (some 46) (.int .i64 (M:Nat)) rfl rfl (λwz hz=>by obtain⟨z0,z1,z2⟩:=hz;unfold execOp;go_simp) hHeld ?_;simp only[Act.put,zh,zf,zg];refine ja 12 (some 47) (.int .i64 (D:Nat)) hHeld ?_;simp only[Act.put,zh,zf,zg];refine j3 13 (some 48) (.agg #[.int .i64 1,.int .i64 (M:Nat),.slice none 0 0,.int .i64 (D:Nat),.int .i64 0,.int .i64 0,.slice none 0 0,.slice none 0 0]) rfl rfl (λ_ _=>by kernel_rfl) hHeld ?_;simp only[Act.put,zh,zf,zg]
     have hT2:(wr.drew.alloc (.cells #[.int .i64 1,.int .i64 (M:Nat),.slice none 0 0,.int .i64 (D:Nat),.int .i64 0,.int .i64 0,.slice none 0 0,.slice none 0 0] 65)).cell? ⟨cb,2,none⟩=some V2.vp∧(wr.drew.alloc (.cells #[.int .i64 1,.int .i64 (M:Nat),.slice none 0 0,.int .i64 (D:Nat),.int .i64 0,.int .i64 0,.slice none 0 0,.slice none 0 0] 65)).cell? ⟨w.heap.size,4,none⟩=some (.slice (some ⟨g,off,none⟩) L C)∧(wr.drew.alloc (.cells #[.int .i64 1,.int .i64 (M:Nat),.slice none 0 0,.int .i64 (D:Nat),.int .i64 0,.int .i64 0,.slice none 0 0,.slice none 0 0] 65)).cell? ⟨g,off+i*5+2,none⟩=some (.int .i64 (M:Nat)):=⟨za (zl wr.drew _) hHeld.1,za (zl wr.drew _) hHeld.2.1,za (zl wr.drew _) hHeld.2.2⟩
     refine zV 14 (some 49) (.slice (some ⟨wr.heap.size,0,none⟩) 1 1) (wr.drew.alloc (.cells #[.int .i64 1,.int .i64 (M:Nat),.slice none 0 0,.int .i64 (D:Nat),.int .i64 0,.int .i64 0,.slice none 0 0,.slice none 0 0] 65)) (by kernel_rfl) rfl rfl (by rfl) (by kernel_rfl) hT2 ?_;simp only[Act.put,zh,zf,zg];have hb67:Below wr.heap.size wr (wr.drew.alloc (.cells #[.int .i64 1,.int .i64 (M:Nat),.slice none 0 0,.int .i64 (D:Nat),.int .i64 0,.int .i64 0,.slice none 0 0,.slice none 0 0] 65)):=(zr (Below.refl _ wr)).trans (zl wr.drew _);have G7:=H2.keep hb67;obtain⟨us,e1,hpr,hpi⟩:=G7.prts;obtain⟨A8,C8,w8,hr8,hrow8,hg8,hw8⟩:=zX Zp (ty:=30) (wr.drew.alloc (.cells #[.int .i64 1,.int .i64 (M:Nat),.slice none 0 0,.int .i64 (D:Nat),.int .i64 0,.int .i64 0,.slice none 0 0,.slice none 0 0] 65)) cb ps.length _ _ hpr (by have:=G7.has.lt;omega) (by omega) #[.int .i64 1,.int .i64 (M:Nat),.slice none 0 0,.int .i64 (D:Nat),.int .i64 0,.int .i64 0,.slice none 0 0,.slice none 0 0].toList rfl (by intro u hu;simp at hu;rcases hu with rfl|rfl|rfl|rfl|rfl|rfl|rfl|rfl<;>rfl) wr.heap.size (zm.new_at rfl);obtain⟨G9,S9⟩:=G7.putPart (p:=⟨1,M,[],D,0,0,[],[]⟩) (u:=(.slice none 0 0,.slice none 0 0,.slice none 0 0)) (by show ps.length<100000;omega) e1 hpi hpr (dd _ rfl rfl rfl _ _) hg8 hrow8 hw8;have cb8h:=zy G7.has hg8 (zK hpr G7.has (by decide));have n8h:=zy (Nr.below hb67 Nr.lt) hg8 (λe=>HNV.out (.inr (.inr (.inl e))));have c28:=cb8h.cell 2;have n48:=n8h.cell 4
     have a28:=(hg8.block g (Nat.lt_of_lt_of_le HGL.out hb67.size) (λe=>HGV.out (.inr (.inr (.inl e.symm)))))
     have a28:w8.cell? ⟨g,off+i*5+2,none⟩=some (.int .i64 (M:Nat)):=(World.cell?_of_block (w:=wr) (a:=⟨g,off+i*5+2,none⟩) (a28.trans (hb67.block g HGL.out))).trans a2;simp only[vh,List.getElem?_toArray,List.getElem?_cons_zero,List.getElem?_cons_succ]at c28 n48
     have hT8:w8.cell? ⟨cb,2,none⟩=some V2.vp∧w8.cell? ⟨w.heap.size,4,none⟩=some (.slice (some ⟨g,off,none⟩) L C)∧w8.cell? ⟨g,off+i*5+2,none⟩=some (.int .i64 (M:Nat)):=⟨c28,n48,a28⟩
     refine zV 15 (some 50) (.slice A8 (ps.length+1) C8) w8 (by kernel_rfl) rfl rfl (by rfl) (zW _ _ rfl rfl rfl hr8) hT8 ?_;simp only[Act.put,zh,zf,zg];refine zV 16 (some 51) (.pointer (some ⟨cb,0,none⟩)) w8 (by kernel_rfl) rfl rfl (by rfl) rfl hT8 ?_;simp only[Act.put,zh,zf,zg];refine zV 17 (some 52) (.pointer (some ⟨cb,0,none⟩)) w8 (by kernel_rfl) rfl rfl (by rfl) rfl hT8 ?_;simp only[Act.put,zh,zf,zg];refine zV 18 (some 53) (.pointer (some ⟨cb,2,none⟩)) w8 (by kernel_rfl) rfl rfl (by rfl) rfl hT8 ?_;simp only[Act.put,zh,zf,zg];have q8:=cb8h.cell 2;have f8:=cb8h.free 2;have l8:=cb8h.lt;refine qC 19 none (w8.setCell ⟨cb,2,none⟩ (.slice A8 (ps.length+1) C8)) (by kernel_rfl) rfl rfl (by rfl) (by unfold execOp;go_simp) (by kernel_rfl) ?_;simp only[Act.put];have hs9:Sp (V2.own cb) wr (RV.own { V2 with vp:= .slice A8 (ps.length+1) C8 } cb) (w8.setCell ⟨cb,2,none⟩ (.slice A8 (ps.length+1) C8)):=Sp.left hb67 S9;have n9h:=n8h.other (p:=⟨cb,2,none⟩) (show w.heap.size≠cb from by have:=HCB.out;omega) (.slice A8 (ps.length+1) C8);have a09:(w8.setCell ⟨cb,2,none⟩ (.slice A8 (ps.length+1) C8)).cell? ⟨g,off+i*5,none⟩=some (.string (bs m.op)):=(World.cell?_of_block (w:=wr) (a:=⟨g,off+i*5,none⟩) (hs9.inner g HGL.out HGV.out).1).trans a0;have n94:=n9h.cell 4;have n9l:=n9h.lt;have G9:zZ (λ_=>False) (w8.setCell ⟨cb,2,none⟩ (.slice A8 (ps.length+1) C8)) cb { V2 with vp:= .slice A8 (ps.length+1) C8 } (rkD (ps++ [⟨1,M,[],D,0,0,[],[]⟩])):=G9;generalize w8.setCell ⟨cb,2,none⟩ (.slice A8 (ps.length+1) C8)=W9 at *;simp only[qH,qG,qI]at n94;clear hT8 hT2 hHeld c28 n48 a28 q8 f8 l8 hr8 hrow8 hg8 hw8 cb8h n8h G7 hpr hpi e1 c2r nr4 nrl a0 a2 H2
     go_wp2_with (first
      |((with_reducible refine zi 31 rfl ?_)
        (refine zd (some 31) _ rfl (by rfl) (zu _ _ rfl g off i L C rfl rfl hlt _) ?_))
      |((with_reducible refine zi 57 rfl ?_)
        (refine zd (some 57) _ rfl (by rfl) (zu _ _ rfl g off i L C rfl rfl hlt _) ?_))
      |((with_reducible refine zi 65 rfl ?_)
        (refine zd (some 65) _ rfl (by rfl) (zu _ _ rfl g off i L C rfl rfl hlt _) ?_)))
     go_roundw
     case rel=>exact⟨i+1,_,by rw[HE2.out];go_num,by go_num,HI.out,by rw[HE1.out];exact G9,S2.trans hs9⟩
     case measure=>simp[intOf];omega
    by_cases hj:m.op=zq
    ·have f0:(m.op== [100,101,118,105,99,101])=false:=by rw[hj];decide
     have f1:(m.op== [106,111,117,114,110,97,108])=true:=by rw[hj];decide
     have HE1:=ze (show disks 0 (n.l.take (i+1))=ps by rw[HD.out,if_neg hd,List.append_nil]);have HE2:=ze (show j6 (n.l.take (i+1))=D+1 by rw[HV.out,if_pos (.inr hj)]);clear hd hj hnl HD HV
     go_wp2_with (first
      |((with_reducible refine zi 31 rfl ?_)
        (refine zd (some 31) _ rfl (by rfl) (zu _ _ rfl g off i L C rfl rfl hlt _) ?_))
      |((with_reducible refine zi 57 rfl ?_)
        (refine zd (some 57) _ rfl (by rfl) (zu _ _ rfl g off i L C rfl rfl hlt _) ?_))
      |((with_reducible refine zi 65 rfl ?_)
        (refine zd (some 65) _ rfl (by rfl) (zu _ _ rfl g off i L C rfl rfl hlt _) ?_)))
     go_roundw
     case rel=>exact⟨i+1,V2,by rw[HE2.out];go_num,by go_num,HI.out,by rw[HE1.out];exact H2,S2⟩
     case measure=>simp[intOf];omega
    ·have f0:(m.op== [100,101,118,105,99,101])=false:=by rw[beq_eq_false_iff_ne];exact hd
     have f1:(m.op== [106,111,117,114,110,97,108])=false:=by rw[beq_eq_false_iff_ne];exact hj
     have HE1:=ze (show disks 0 (n.l.take (i+1))=ps by rw[HD.out,if_neg hd,List.append_nil]);have HE2:=ze (show j6 (n.l.take (i+1))=D by rw[HV.out,if_neg (by rintro(q|q);exact hd q;exact hj q)];rfl);clear hd hj hnl HD HV
     go_wp2_with (first
      |((with_reducible refine zi 31 rfl ?_)
        (refine zd (some 31) _ rfl (by rfl) (zu _ _ rfl g off i L C rfl rfl hlt _) ?_))
      |((with_reducible refine zi 57 rfl ?_)
        (refine zd (some 57) _ rfl (by rfl) (zu _ _ rfl g off i L C rfl rfl hlt _) ?_))
      |((with_reducible refine zi 65 rfl ?_)
        (refine zd (some 65) _ rfl (by rfl) (zu _ _ rfl g off i L C rfl rfl hlt _) ?_)))
     go_roundw
     case rel=>exact⟨i+1,V2,by rw[HE2.out],by go_num,HI.out,by rw[HE1.out];exact H2,S2⟩
     case measure=>simp[intOf];omega
   ·obtain rfl:i=L:=by omega
    have htk:n.l.take i=n.l:=by rw[HL.out,List.take_length]
    rw[htk]at H2;have HB0:=ze HBr.out;clear htk HBr
    obtain⟨wo,hwo⟩:∃wo,wo=wr:=⟨_,rfl⟩
    subst hwo
    go_wp2
    clear nr4 nrl
    go_loopw [9] (λz9 wq=>∃(j:Nat) (V':RV) (k:Rk),z9= .int .i64 (j:Nat)∧j≤i∧zZ (λg=>cb≤g∧g<wq.heap.size) wq cb V' k∧Sp (V2.own cb) wo (V'.own cb) wq∧Hid (Hv n j k)) (λz _=>i-(intOf z).toNat)
    case atStart=>exact⟨0,V2,_,rfl,Nat.zero_le _,H2.mono (λ_ _ _ q=>q.elim),Sp.refl _ _,ze (Hv.start n)⟩
    case round =>
     obtain⟨j,V3,k,rfl,hj,H3,S3,HK⟩:=hrel;have hS03:=S2.trans S3
     have hNr:=(hS03.inner w.heap.size (by have:=HCB.out;omega) (HNO.out _ (by have:=HCB.out;omega)))
     have hPr:=(hS03.inner (w.heap.size+1) (by have:=HCB.out;omega) (HNO.out _ (by have:=HCB.out;omega)))
     have Nr3:zm wr w.heap.size 24 #[.string (bs n.op),.string (bs n.s),.int .i64 n.n,.int .i64 n.a,.slice A i C]:=hNr.1.trans N5;have hP:zm wr (w.heap.size+1) 32 #[.slice none 0 0,.int .i64 0,.slice none 0 0,.int .i64 0,.bool false]:=hPr.1.trans P5;have HPN:=ze (show(w.heap.size+1)<wr.heap.size∧¬V3.own cb (w.heap.size+1)from⟨hP.lt,hPr.2⟩);have HP:=ze hP;have nr4:=Nr3.cell 4;have nrl:=Nr3.lt;simp only[qH,qG,qI]at nr4;have HBr:=ze (show Below w.heap.size w wr from HB5.out.trans (hS03.below HB5.out.size (λk hk=>by have:=(G5.low hk).1;have:=HCB.out;omega)));clear hNr hPr hS03 hP;by_cases hlt:j<i
     ·by_cases hb:k.bad=0
      ·rcases HK.out with⟨c,hO,hC⟩|⟨ec,ea,h0,_,hbd,_⟩
       ·have hil:j<n.l.length:=by rw[←HL.out];exact hlt
        obtain⟨g,off,An,Cn,eA,hg,hat,hrn⟩:=Q2.get (⟨HRD.out.rd,HBr.out⟩:Q2 w wr n.l A C) hil;subst eA;have hint:(j:Int)<(i:Int):=by omega
        have hm:=HSR.out _ (List.getElem_mem hil);have hms:=HSS.out _ (List.getElem_mem hil);have HKS:=ze (λk' (q:Out k' (jm c n.l[j]))=>Hv.step hil HSR.out hO hC q);have hstm:=zcK H3 (λg q e=>absurd e.2 (Nat.not_lt.2 q)) n.l[j] An Cn hm (q:=n.l.take j) (r:=n.l.drop (j+1)) (by rw[List.getElem_cons_drop,List.take_append_drop]) hO (by simp;omega) hrn (by have:=HCB.out;omega) HBr.out (za7 hms);have c12:=H3.has.cell 12;have l3:=H3.has.lt;simp only[vh,List.getElem?_toArray,List.getElem?_cons_zero,List.getElem?_cons_succ]at c12;rw[hb]at c12;have HJ:=ze (show j+1≤i by omega);have HCW:=ze (show cb<wr.heap.size from l3);generalize n.l[j]=m at *;clear hC hil hrn hg hm hms hO hj
        go_wp2_with (first
         |((with_reducible refine zi 90 rfl ?_)
           (refine zd (some 90) _ rfl (by rfl) (zu _ _ rfl g off j i C rfl rfl hlt _) ?_))
         |((with_reducible refine zi 91 rfl ?_)
           refine zd (some 91) _ rfl (by rfl) (zC _ rfl g (off+j*5) rfl _ hat) ?_;(unfold zO))
         |((go_at_call 18)
           refine hstm.mono ?_;(rintro e w5 ⟨rfl,V5,k5,ho5,H5,S5⟩)))
        go_roundw
        case rel=>exact⟨j+1,V5,k5,by go_num,HJ.out,H5.mono (λq hq _ he=>⟨by rcases he with he|he;exact he.1;have:=HCW.out;omega,hq⟩),S3.trans S5,ze (HKS.out k5 ho5)⟩
        case measure=>simp[intOf];omega
       ·exact absurd hb (by rw[hbd];omega)
      ·have hint:(j:Int)<(i:Int):=by omega
       obtain⟨ec,ea,hec,hchk,hbd,hae⟩:=HK.out.bad hb;have HRE:=ze (HR.out.trans hchk);have hf:=λb=>(by have q:=qk H3 b 138 0;rw[qy hb]at q;exact q:Calls Tryz.prog 19 #[.pointer (some ⟨cb,0,none⟩),.bool b,.int .i64 138,.int .i64 0] wr (Yi _ wr cb V3 k (.tuple #[])))
       obtain⟨KB,hKB⟩:∃KB:Int,KB=(ec:Nat):=⟨_,rfl⟩
       have hkb0:¬KB=0:=by omega
       have hkb1:(KB==0)=false:=by rw[beq_eq_false_iff_ne];exact hkb0
       have hkb2:decide (KB=0)=false:=decide_eq_false hkb0;have hkb3:(KB != 0)=true:=by rw[bne,hkb1];rfl
       obtain⟨KA,hKA⟩:∃KA:Int,KA=ea:=⟨_,rfl⟩
       have HKB:=ze hKB;have HKA:=ze hKA;have HC12:=ze (show(vh V3 k)[12]?=some (.int .i64 KB) by show some (Value.int .i64 k.bad)=_;rw[hbd,hKB]);have HCS:=ze (show vh V3 k= #[V3.vd,.int .i64 k.jour,V3.vp,.int .i64 k.expo,.bool k.ro,V3.vt,.int .i64 k.journals,.int .i64 k.exports,.int .i64 k.devices,.int .i64 k.keys,.int .i64 k.volumes,.int .i64 k.place,.int .i64 KB,.int .i64 KA] by unfold vh;rw[hbd,hae,hKB,hKA]);have c12:=(H3.has.cell 12).trans HC12.out;have c6:=H3.has.cell 6;have c7:=H3.has.cell 7;have l3:=H3.has.lt;simp only[vh,List.getElem?_toArray,List.getElem?_cons_zero,List.getElem?_cons_succ]at c6 c7
       obtain⟨JO,hJO⟩:∃JO,JO=k.journals:=⟨_,rfl⟩
       rw[←hJO]at c6;clear hJO hchk hbd hae hKB hKA hb hec;by_cases hJ0:JO=0
       ·subst hJ0
        go_wp2_with (first
         |((go_at_call 19)
           refine(hf _).mono ?_;rintro e w5 ⟨rfl,h5,s5⟩;have c125:=(h5.has.cell 12).trans HC12.out;(have l5:=h5.has.lt)))
        have hcs5:zm w5 cb 61 #[V3.vd,.int .i64 k.jour,V3.vp,.int .i64 k.expo,.bool k.ro,V3.vt,.int .i64 k.journals,.int .i64 k.exports,.int .i64 k.devices,.int .i64 k.keys,.int .i64 k.volumes,.int .i64 k.place,.int .i64 KB,.int .i64 KA]:=by rw[←HCS.out];exact h5.has
        have Pend:zm w5 (w.heap.size+1) 32 #[.slice none 0 0,.int .i64 0,.slice none 0 0,.int .i64 0,.bool false]:=(s5.inner (w.heap.size+1) HPN.out.1 HPN.out.2).1.trans HP.out;refine wp_region_held_drew (S:=λwz=>zm wz cb 61 #[V3.vd,.int .i64 k.jour,V3.vp,.int .i64 k.expo,.bool k.ro,V3.vt,.int .i64 k.journals,.int .i64 k.exports,.int .i64 k.devices,.int .i64 k.keys,.int .i64 k.volumes,.int .i64 k.place,.int .i64 KB,.int .i64 KA]∧zm wz (w.heap.size+1) 32 #[.slice none 0 0,.int .i64 0,.slice none 0 0,.int .i64 0,.bool false]) (by kernel_rfl) (⟨zt hcs5,zt Pend⟩) (λhHeld=>?_);refine zD 0 (some 184) (.agg #[.slice none 0 0,.int .i64 0,.slice none 0 0,.int .i64 0,.bool false]) rfl rfl (λ_ _=>by kernel_rfl) hHeld ?_;simp only[Act.put,zh,zf,zg];refine zw 1 (some 185) (.pointer (some ⟨cb,0,none⟩)) hHeld ?_;simp only[Act.put,zh,zf,zg];refine zw 2 (some 186) (.pointer (some ⟨cb,0,none⟩)) hHeld ?_;simp only[Act.put,zh,zf,zg];refine zw 3 (some 187) (.pointer (some ⟨cb,12,none⟩)) hHeld ?_;simp only[Act.put,zh,zf,zg];refine zD 4 (some 188) (.int .i64 KB) rfl rfl (λwz hz=>vM _ rfl _ rfl wz (hz.1.cell 12)) hHeld ?_;simp only[Act.put,zh,zf,zg];refine zw 5 (some 189) (.pointer (some ⟨cb,0,none⟩)) hHeld ?_;simp only[Act.put,zh,zf,zg];refine zw 6 (some 190) (.pointer (some ⟨cb,0,none⟩)) hHeld ?_;simp only[Act.put,zh,zf,zg];refine zw 7 (some 191) (.pointer (some ⟨cb,13,none⟩)) hHeld ?_;simp only[Act.put,zh,zf,zg];refine zD 8 (some 192) (.int .i64 KA) rfl rfl (λwz hz=>qm _ rfl _ rfl wz (hz.1.cell 13)) hHeld ?_;simp only[Act.put,zh,zf,zg]
        have hH3:zm (w5.drew.setRow (w.heap.size+1) #[.slice none 0 0,.int .i64 0,.slice none 0 0,.int .i64 0,.bool false]) cb 61 #[V3.vd,.int .i64 k.jour,V3.vp,.int .i64 k.expo,.bool k.ro,V3.vt,.int .i64 k.journals,.int .i64 k.exports,.int .i64 k.devices,.int .i64 k.keys,.int .i64 k.volumes,.int .i64 k.place,.int .i64 KB,.int .i64 KA]∧zm (w5.drew.setRow (w.heap.size+1) #[.slice none 0 0,.int .i64 0,.slice none 0 0,.int .i64 0,.bool false]) (w.heap.size+1) 32 #[.slice none 0 0,.int .i64 0,.slice none 0 0,.int .i64 0,.bool false]:=⟨hHeld.1.setRow_other (by have:=HCB.out;omega) _,hHeld.2.setRow _⟩
        refine vz 9 (by kernel_rfl) (vg none (w5.drew.setRow (w.heap.size+1) #[.slice none 0 0,.int .i64 0,.slice none 0 0,.int .i64 0,.bool false]) rfl rfl (by rfl) (qP 32 _ _ rfl (w.heap.size+1) rfl #[.slice none 0 0,.int .i64 0,.slice none 0 0,.int .i64 0,.bool false] rfl 32 (by kernel_rfl) _ hHeld.2 rfl (by kernel_rfl)) ⟨hH3,?_⟩);simp only[Act.put];refine zD 10 (some 3) (.int .i64 KB) rfl rfl (λ_ _=>rfl) hH3 ?_;simp only[Act.put,zh,zf,zg];refine zD 11 (some 4) (.int .i64 KA) rfl rfl (λ_ _=>rfl) hH3 ?_;simp only[Act.put,zh,zf,zg];refine wpAnyH_done (by kernel_rfl) ?_ _
        go_wp2
        refine yD rfl rfl rfl rfl hH3.2 rfl ?_;refine⟨jd (zr ((HBr.out).trans (s5.below HBr.out.size (λq hq=>by have:=(H3.low hq).1;have:=HCB.out;omega)))) (by omega) _,?_⟩;rw[HKB.out,HKA.out];exact Q0.err HRE.out _
       ·have hJ1:(JO==0)=false:=by rw[beq_eq_false_iff_ne];exact hJ0
        have hJ2:decide (JO=0)=false:=decide_eq_false hJ0
        go_wp2_with (first
         |((go_at_call 19)
           refine(hf _).mono ?_;rintro e w5 ⟨rfl,h5,s5⟩;have c125:=(h5.has.cell 12).trans HC12.out;(have l5:=h5.has.lt)))
        have hcs5:zm w5 cb 61 #[V3.vd,.int .i64 k.jour,V3.vp,.int .i64 k.expo,.bool k.ro,V3.vt,.int .i64 k.journals,.int .i64 k.exports,.int .i64 k.devices,.int .i64 k.keys,.int .i64 k.volumes,.int .i64 k.place,.int .i64 KB,.int .i64 KA]:=by rw[←HCS.out];exact h5.has
        have Pend:zm w5 (w.heap.size+1) 32 #[.slice none 0 0,.int .i64 0,.slice none 0 0,.int .i64 0,.bool false]:=(s5.inner (w.heap.size+1) HPN.out.1 HPN.out.2).1.trans HP.out;refine wp_region_held_drew (S:=λwz=>zm wz cb 61 #[V3.vd,.int .i64 k.jour,V3.vp,.int .i64 k.expo,.bool k.ro,V3.vt,.int .i64 k.journals,.int .i64 k.exports,.int .i64 k.devices,.int .i64 k.keys,.int .i64 k.volumes,.int .i64 k.place,.int .i64 KB,.int .i64 KA]∧zm wz (w.heap.size+1) 32 #[.slice none 0 0,.int .i64 0,.slice none 0 0,.int .i64 0,.bool false]) (by kernel_rfl) (⟨zt hcs5,zt Pend⟩) (λhHeld=>?_);refine zD 0 (some 184) (.agg #[.slice none 0 0,.int .i64 0,.slice none 0 0,.int .i64 0,.bool false]) rfl rfl (λ_ _=>by kernel_rfl) hHeld ?_;simp only[Act.put,zh,zf,zg];refine zw 1 (some 185) (.pointer (some ⟨cb,0,none⟩)) hHeld ?_;simp only[Act.put,zh,zf,zg];refine zw 2 (some 186) (.pointer (some ⟨cb,0,none⟩)) hHeld ?_;simp only[Act.put,zh,zf,zg];refine zw 3 (some 187) (.pointer (some ⟨cb,12,none⟩)) hHeld ?_;simp only[Act.put,zh,zf,zg];refine zD 4 (some 188) (.int .i64 KB) rfl rfl (λwz hz=>vM _ rfl _ rfl wz (hz.1.cell 12)) hHeld ?_;simp only[Act.put,zh,zf,zg];refine zw 5 (some 189) (.pointer (some ⟨cb,0,none⟩)) hHeld ?_;simp only[Act.put,zh,zf,zg];refine zw 6 (some 190) (.pointer (some ⟨cb,0,none⟩)) hHeld ?_;simp only[Act.put,zh,zf,zg];refine zw 7 (some 191) (.pointer (some ⟨cb,13,none⟩)) hHeld ?_;simp only[Act.put,zh,zf,zg];refine zD 8 (some 192) (.int .i64 KA) rfl rfl (λwz hz=>qm _ rfl _ rfl wz (hz.1.cell 13)) hHeld ?_;simp only[Act.put,zh,zf,zg]
        have hH3:zm (w5.drew.setRow (w.heap.size+1) #[.slice none 0 0,.int .i64 0,.slice none 0 0,.int .i64 0,.bool false]) cb 61 #[V3.vd,.int .i64 k.jour,V3.vp,.int .i64 k.expo,.bool k.ro,V3.vt,.int .i64 k.journals,.int .i64 k.exports,.int .i64 k.devices,.int .i64 k.keys,.int .i64 k.volumes,.int .i64 k.place,.int .i64 KB,.int .i64 KA]∧zm (w5.drew.setRow (w.heap.size+1) #[.slice none 0 0,.int .i64 0,.slice none 0 0,.int .i64 0,.bool false]) (w.heap.size+1) 32 #[.slice none 0 0,.int .i64 0,.slice none 0 0,.int .i64 0,.bool false]:=⟨hHeld.1.setRow_other (by have:=HCB.out;omega) _,hHeld.2.setRow _⟩
        refine vz 9 (by kernel_rfl) (vg none (w5.drew.setRow (w.heap.size+1) #[.slice none 0 0,.int .i64 0,.slice none 0 0,.int .i64 0,.bool false]) rfl rfl (by rfl) (qP 32 _ _ rfl (w.heap.size+1) rfl #[.slice none 0 0,.int .i64 0,.slice none 0 0,.int .i64 0,.bool false] rfl 32 (by kernel_rfl) _ hHeld.2 rfl (by kernel_rfl)) ⟨hH3,?_⟩);simp only[Act.put];refine zD 10 (some 3) (.int .i64 KB) rfl rfl (λ_ _=>rfl) hH3 ?_;simp only[Act.put,zh,zf,zg];refine zD 11 (some 4) (.int .i64 KA) rfl rfl (λ_ _=>rfl) hH3 ?_;simp only[Act.put,zh,zf,zg];refine wpAnyH_done (by kernel_rfl) ?_ _
        go_wp2
        refine yD rfl rfl rfl rfl hH3.2 rfl ?_;refine⟨jd (zr ((HBr.out).trans (s5.below HBr.out.size (λq hq=>by have:=(H3.low hq).1;have:=HCB.out;omega)))) (by omega) _,?_⟩;rw[HKB.out,HKA.out];exact Q0.err HRE.out _
     ·obtain rfl:j=i:=by omega
      by_cases hb:k.bad=0
      ·obtain⟨c,hO,hchk⟩:=HK.out.all (by rw[←HL.out];exact Nat.le_refl _) hb
       cases hjn:c.jour with
       |none =>
        cases hxn:c.expo with
        |none =>
         have hw:=Qb hO (.inl hjn);have HRE:=ze ((HR.out.trans hchk).trans hw.2)
         have hf:=(by have q:=qk H3 true 138 0;rw[qu hb]at q;exact q:Calls Tryz.prog 19 #[.pointer (some ⟨cb,0,none⟩),.bool true,.int .i64 138,.int .i64 0] wr (Yi _ wr cb V3 { k with bad:=138,at':=0 } (.tuple #[])))
         have c12:=H3.has.cell 12;have c6:=H3.has.cell 6;have c7:=H3.has.cell 7;have l3:=H3.has.lt;simp only[vh,List.getElem?_toArray,List.getElem?_cons_zero,List.getElem?_cons_succ]at c6 c7 c12;rw[hb]at c12;rw[hO.ri.js,hjn]at c6;rw[hO.ri.es,hxn]at c7;change wr.cell? ⟨cb,6,none⟩=some (.int .i64 0)at c6;clear hw hchk hb hjn hxn hO
         go_wp2_with (first
          |((go_at_call 19)
            refine hf.mono ?_;rintro e w5 ⟨rfl,h5,s5⟩;have c125:w5.cell? ⟨cb,12,none⟩=some (.int .i64 138):=h5.has.cell 12;(have l5:=h5.has.lt)))
         have hcs5:zm w5 cb 61 #[V3.vd,.int .i64 k.jour,V3.vp,.int .i64 k.expo,.bool k.ro,V3.vt,.int .i64 k.journals,.int .i64 k.exports,.int .i64 k.devices,.int .i64 k.keys,.int .i64 k.volumes,.int .i64 k.place,.int .i64 138,.int .i64 0]:=h5.has;have Pend:zm w5 (w.heap.size+1) 32 #[.slice none 0 0,.int .i64 0,.slice none 0 0,.int .i64 0,.bool false]:=(s5.inner (w.heap.size+1) HPN.out.1 HPN.out.2).1.trans HP.out;refine wp_region_held_drew (S:=λwz=>zm wz cb 61 #[V3.vd,.int .i64 k.jour,V3.vp,.int .i64 k.expo,.bool k.ro,V3.vt,.int .i64 k.journals,.int .i64 k.exports,.int .i64 k.devices,.int .i64 k.keys,.int .i64 k.volumes,.int .i64 k.place,.int .i64 138,.int .i64 0]∧zm wz (w.heap.size+1) 32 #[.slice none 0 0,.int .i64 0,.slice none 0 0,.int .i64 0,.bool false]) (by kernel_rfl) (⟨zt hcs5,zt Pend⟩) (λhHeld=>?_);refine zD 0 (some 184) (.agg #[.slice none 0 0,.int .i64 0,.slice none 0 0,.int .i64 0,.bool false]) rfl rfl (λ_ _=>by kernel_rfl) hHeld ?_;simp only[Act.put,zh,zf,zg];refine zw 1 (some 185) (.pointer (some ⟨cb,0,none⟩)) hHeld ?_;simp only[Act.put,zh,zf,zg];refine zw 2 (some 186) (.pointer (some ⟨cb,0,none⟩)) hHeld ?_;simp only[Act.put,zh,zf,zg];refine zw 3 (some 187) (.pointer (some ⟨cb,12,none⟩)) hHeld ?_;simp only[Act.put,zh,zf,zg];refine zD 4 (some 188) (.int .i64 138) rfl rfl (λwz hz=>vM _ rfl _ rfl wz (hz.1.cell 12)) hHeld ?_;simp only[Act.put,zh,zf,zg];refine zw 5 (some 189) (.pointer (some ⟨cb,0,none⟩)) hHeld ?_;simp only[Act.put,zh,zf,zg];refine zw 6 (some 190) (.pointer (some ⟨cb,0,none⟩)) hHeld ?_;simp only[Act.put,zh,zf,zg];refine zw 7 (some 191) (.pointer (some ⟨cb,13,none⟩)) hHeld ?_;simp only[Act.put,zh,zf,zg];refine zD 8 (some 192) (.int .i64 0) rfl rfl (λwz hz=>qm _ rfl _ rfl wz (hz.1.cell 13)) hHeld ?_;simp only[Act.put,zh,zf,zg]
         have hH3:zm (w5.drew.setRow (w.heap.size+1) #[.slice none 0 0,.int .i64 0,.slice none 0 0,.int .i64 0,.bool false]) cb 61 #[V3.vd,.int .i64 k.jour,V3.vp,.int .i64 k.expo,.bool k.ro,V3.vt,.int .i64 k.journals,.int .i64 k.exports,.int .i64 k.devices,.int .i64 k.keys,.int .i64 k.volumes,.int .i64 k.place,.int .i64 138,.int .i64 0]∧zm (w5.drew.setRow (w.heap.size+1) #[.slice none 0 0,.int .i64 0,.slice none 0 0,.int .i64 0,.bool false]) (w.heap.size+1) 32 #[.slice none 0 0,.int .i64 0,.slice none 0 0,.int .i64 0,.bool false]:=⟨hHeld.1.setRow_other (by have:=HCB.out;omega) _,hHeld.2.setRow _⟩
         refine vz 9 (by kernel_rfl) (vg none (w5.drew.setRow (w.heap.size+1) #[.slice none 0 0,.int .i64 0,.slice none 0 0,.int .i64 0,.bool false]) rfl rfl (by rfl) (qP 32 _ _ rfl (w.heap.size+1) rfl #[.slice none 0 0,.int .i64 0,.slice none 0 0,.int .i64 0,.bool false] rfl 32 (by kernel_rfl) _ hHeld.2 rfl (by kernel_rfl)) ⟨hH3,?_⟩);simp only[Act.put];refine zD 10 (some 3) (.int .i64 138) rfl rfl (λ_ _=>rfl) hH3 ?_;simp only[Act.put,zh,zf,zg];refine zD 11 (some 4) (.int .i64 0) rfl rfl (λ_ _=>rfl) hH3 ?_;simp only[Act.put,zh,zf,zg];refine wpAnyH_done (by kernel_rfl) ?_ _
         go_wp2
         refine yD rfl rfl rfl rfl hH3.2 rfl ?_;refine⟨jd (zr ((HBr.out).trans (s5.below HBr.out.size (λq hq=>by have:=(H3.low hq).1;have:=HCB.out;omega)))) (by omega) _,?_⟩;exact Q0.err HRE.out _
        |some x =>
         have hw:=Qb hO (.inl hjn);have HRE:=ze ((HR.out.trans hchk).trans hw.2)
         have hf:=(by have q:=qk H3 true 138 0;rw[qu hb]at q;exact q:Calls Tryz.prog 19 #[.pointer (some ⟨cb,0,none⟩),.bool true,.int .i64 138,.int .i64 0] wr (Yi _ wr cb V3 { k with bad:=138,at':=0 } (.tuple #[])))
         have c12:=H3.has.cell 12;have c6:=H3.has.cell 6;have c7:=H3.has.cell 7;have l3:=H3.has.lt;simp only[vh,List.getElem?_toArray,List.getElem?_cons_zero,List.getElem?_cons_succ]at c6 c7 c12;rw[hb]at c12;rw[hO.ri.js,hjn]at c6;rw[hO.ri.es,hxn]at c7;change wr.cell? ⟨cb,6,none⟩=some (.int .i64 0)at c6;clear hw hchk hb hjn hxn hO
         go_wp2_with (first
          |((go_at_call 19)
            refine hf.mono ?_;rintro e w5 ⟨rfl,h5,s5⟩;have c125:w5.cell? ⟨cb,12,none⟩=some (.int .i64 138):=h5.has.cell 12;(have l5:=h5.has.lt)))
         have hcs5:zm w5 cb 61 #[V3.vd,.int .i64 k.jour,V3.vp,.int .i64 k.expo,.bool k.ro,V3.vt,.int .i64 k.journals,.int .i64 k.exports,.int .i64 k.devices,.int .i64 k.keys,.int .i64 k.volumes,.int .i64 k.place,.int .i64 138,.int .i64 0]:=h5.has;have Pend:zm w5 (w.heap.size+1) 32 #[.slice none 0 0,.int .i64 0,.slice none 0 0,.int .i64 0,.bool false]:=(s5.inner (w.heap.size+1) HPN.out.1 HPN.out.2).1.trans HP.out;refine wp_region_held_drew (S:=λwz=>zm wz cb 61 #[V3.vd,.int .i64 k.jour,V3.vp,.int .i64 k.expo,.bool k.ro,V3.vt,.int .i64 k.journals,.int .i64 k.exports,.int .i64 k.devices,.int .i64 k.keys,.int .i64 k.volumes,.int .i64 k.place,.int .i64 138,.int .i64 0]∧zm wz (w.heap.size+1) 32 #[.slice none 0 0,.int .i64 0,.slice none 0 0,.int .i64 0,.bool false]) (by kernel_rfl) (⟨zt hcs5,zt Pend⟩) (λhHeld=>?_);refine zD 0 (some 184) (.agg #[.slice none 0 0,.int .i64 0,.slice none 0 0,.int .i64 0,.bool false]) rfl rfl (λ_ _=>by kernel_rfl) hHeld ?_;simp only[Act.put,zh,zf,zg];refine zw 1 (some 185) (.pointer (some ⟨cb,0,none⟩)) hHeld ?_;simp only[Act.put,zh,zf,zg];refine zw 2 (some 186) (.pointer (some ⟨cb,0,none⟩)) hHeld ?_;simp only[Act.put,zh,zf,zg];refine zw 3 (some 187) (.pointer (some ⟨cb,12,none⟩)) hHeld ?_;simp only[Act.put,zh,zf,zg];refine zD 4 (some 188) (.int .i64 138) rfl rfl (λwz hz=>vM _ rfl _ rfl wz (hz.1.cell 12)) hHeld ?_;simp only[Act.put,zh,zf,zg];refine zw 5 (some 189) (.pointer (some ⟨cb,0,none⟩)) hHeld ?_;simp only[Act.put,zh,zf,zg];refine zw 6 (some 190) (.pointer (some ⟨cb,0,none⟩)) hHeld ?_;simp only[Act.put,zh,zf,zg];refine zw 7 (some 191) (.pointer (some ⟨cb,13,none⟩)) hHeld ?_;simp only[Act.put,zh,zf,zg];refine zD 8 (some 192) (.int .i64 0) rfl rfl (λwz hz=>qm _ rfl _ rfl wz (hz.1.cell 13)) hHeld ?_;simp only[Act.put,zh,zf,zg]
         have hH3:zm (w5.drew.setRow (w.heap.size+1) #[.slice none 0 0,.int .i64 0,.slice none 0 0,.int .i64 0,.bool false]) cb 61 #[V3.vd,.int .i64 k.jour,V3.vp,.int .i64 k.expo,.bool k.ro,V3.vt,.int .i64 k.journals,.int .i64 k.exports,.int .i64 k.devices,.int .i64 k.keys,.int .i64 k.volumes,.int .i64 k.place,.int .i64 138,.int .i64 0]∧zm (w5.drew.setRow (w.heap.size+1) #[.slice none 0 0,.int .i64 0,.slice none 0 0,.int .i64 0,.bool false]) (w.heap.size+1) 32 #[.slice none 0 0,.int .i64 0,.slice none 0 0,.int .i64 0,.bool false]:=⟨hHeld.1.setRow_other (by have:=HCB.out;omega) _,hHeld.2.setRow _⟩
         refine vz 9 (by kernel_rfl) (vg none (w5.drew.setRow (w.heap.size+1) #[.slice none 0 0,.int .i64 0,.slice none 0 0,.int .i64 0,.bool false]) rfl rfl (by rfl) (qP 32 _ _ rfl (w.heap.size+1) rfl #[.slice none 0 0,.int .i64 0,.slice none 0 0,.int .i64 0,.bool false] rfl 32 (by kernel_rfl) _ hHeld.2 rfl (by kernel_rfl)) ⟨hH3,?_⟩);simp only[Act.put];refine zD 10 (some 3) (.int .i64 138) rfl rfl (λ_ _=>rfl) hH3 ?_;simp only[Act.put,zh,zf,zg];refine zD 11 (some 4) (.int .i64 0) rfl rfl (λ_ _=>rfl) hH3 ?_;simp only[Act.put,zh,zf,zg];refine wpAnyH_done (by kernel_rfl) ?_ _
         go_wp2
         refine yD rfl rfl rfl rfl hH3.2 rfl ?_;refine⟨jd (zr ((HBr.out).trans (s5.below HBr.out.size (λq hq=>by have:=(H3.low hq).1;have:=HCB.out;omega)))) (by omega) _,?_⟩;exact Q0.err HRE.out _
       |some jj =>
        cases hxn:c.expo with
        |none =>
         have hw:=Qb hO (.inr hxn);have HRE:=ze ((HR.out.trans hchk).trans hw.2)
         have hf:=(by have q:=qk H3 true 138 0;rw[qu hb]at q;exact q:Calls Tryz.prog 19 #[.pointer (some ⟨cb,0,none⟩),.bool true,.int .i64 138,.int .i64 0] wr (Yi _ wr cb V3 { k with bad:=138,at':=0 } (.tuple #[])))
         have c12:=H3.has.cell 12;have c6:=H3.has.cell 6;have c7:=H3.has.cell 7;have l3:=H3.has.lt;simp only[vh,List.getElem?_toArray,List.getElem?_cons_zero,List.getElem?_cons_succ]at c6 c7 c12;rw[hb]at c12;rw[hO.ri.js,hjn]at c6;rw[hO.ri.es,hxn]at c7;change wr.cell? ⟨cb,6,none⟩=some (.int .i64 1)at c6;change wr.cell? ⟨cb,7,none⟩=some (.int .i64 0)at c7;clear hw hchk hb hjn hxn hO
         go_wp2_with (first
          |((go_at_call 19)
            refine hf.mono ?_;rintro e w5 ⟨rfl,h5,s5⟩;have c125:w5.cell? ⟨cb,12,none⟩=some (.int .i64 138):=h5.has.cell 12;(have l5:=h5.has.lt)))
         have hcs5:zm w5 cb 61 #[V3.vd,.int .i64 k.jour,V3.vp,.int .i64 k.expo,.bool k.ro,V3.vt,.int .i64 k.journals,.int .i64 k.exports,.int .i64 k.devices,.int .i64 k.keys,.int .i64 k.volumes,.int .i64 k.place,.int .i64 138,.int .i64 0]:=h5.has;have Pend:zm w5 (w.heap.size+1) 32 #[.slice none 0 0,.int .i64 0,.slice none 0 0,.int .i64 0,.bool false]:=(s5.inner (w.heap.size+1) HPN.out.1 HPN.out.2).1.trans HP.out;refine wp_region_held_drew (S:=λwz=>zm wz cb 61 #[V3.vd,.int .i64 k.jour,V3.vp,.int .i64 k.expo,.bool k.ro,V3.vt,.int .i64 k.journals,.int .i64 k.exports,.int .i64 k.devices,.int .i64 k.keys,.int .i64 k.volumes,.int .i64 k.place,.int .i64 138,.int .i64 0]∧zm wz (w.heap.size+1) 32 #[.slice none 0 0,.int .i64 0,.slice none 0 0,.int .i64 0,.bool false]) (by kernel_rfl) (⟨zt hcs5,zt Pend⟩) (λhHeld=>?_);refine zD 0 (some 184) (.agg #[.slice none 0 0,.int .i64 0,.slice none 0 0,.int .i64 0,.bool false]) rfl rfl (λ_ _=>by kernel_rfl) hHeld ?_;simp only[Act.put,zh,zf,zg];refine zw 1 (some 185) (.pointer (some ⟨cb,0,none⟩)) hHeld ?_;simp only[Act.put,zh,zf,zg];refine zw 2 (some 186) (.pointer (some ⟨cb,0,none⟩)) hHeld ?_;simp only[Act.put,zh,zf,zg];refine zw 3 (some 187) (.pointer (some ⟨cb,12,none⟩)) hHeld ?_;simp only[Act.put,zh,zf,zg];refine zD 4 (some 188) (.int .i64 138) rfl rfl (λwz hz=>vM _ rfl _ rfl wz (hz.1.cell 12)) hHeld ?_;simp only[Act.put,zh,zf,zg];refine zw 5 (some 189) (.pointer (some ⟨cb,0,none⟩)) hHeld ?_;simp only[Act.put,zh,zf,zg];refine zw 6 (some 190) (.pointer (some ⟨cb,0,none⟩)) hHeld ?_;simp only[Act.put,zh,zf,zg];refine zw 7 (some 191) (.pointer (some ⟨cb,13,none⟩)) hHeld ?_;simp only[Act.put,zh,zf,zg];refine zD 8 (some 192) (.int .i64 0) rfl rfl (λwz hz=>qm _ rfl _ rfl wz (hz.1.cell 13)) hHeld ?_;simp only[Act.put,zh,zf,zg]
         have hH3:zm (w5.drew.setRow (w.heap.size+1) #[.slice none 0 0,.int .i64 0,.slice none 0 0,.int .i64 0,.bool false]) cb 61 #[V3.vd,.int .i64 k.jour,V3.vp,.int .i64 k.expo,.bool k.ro,V3.vt,.int .i64 k.journals,.int .i64 k.exports,.int .i64 k.devices,.int .i64 k.keys,.int .i64 k.volumes,.int .i64 k.place,.int .i64 138,.int .i64 0]∧zm (w5.drew.setRow (w.heap.size+1) #[.slice none 0 0,.int .i64 0,.slice none 0 0,.int .i64 0,.bool false]) (w.heap.size+1) 32 #[.slice none 0 0,.int .i64 0,.slice none 0 0,.int .i64 0,.bool false]:=⟨hHeld.1.setRow_other (by have:=HCB.out;omega) _,hHeld.2.setRow _⟩
         refine vz 9 (by kernel_rfl) (vg none (w5.drew.setRow (w.heap.size+1) #[.slice none 0 0,.int .i64 0,.slice none 0 0,.int .i64 0,.bool false]) rfl rfl (by rfl) (qP 32 _ _ rfl (w.heap.size+1) rfl #[.slice none 0 0,.int .i64 0,.slice none 0 0,.int .i64 0,.bool false] rfl 32 (by kernel_rfl) _ hHeld.2 rfl (by kernel_rfl)) ⟨hH3,?_⟩);simp only[Act.put];refine zD 10 (some 3) (.int .i64 138) rfl rfl (λ_ _=>rfl) hH3 ?_;simp only[Act.put,zh,zf,zg];refine zD 11 (some 4) (.int .i64 0) rfl rfl (λ_ _=>rfl) hH3 ?_;simp only[Act.put,zh,zf,zg];refine wpAnyH_done (by kernel_rfl) ?_ _
         go_wp2
         refine yD rfl rfl rfl rfl hH3.2 rfl ?_;refine⟨jd (zr ((HBr.out).trans (s5.below HBr.out.size (λq hq=>by have:=(H3.low hq).1;have:=HCB.out;omega)))) (by omega) _,?_⟩;exact Q0.err HRE.out _
        |some x =>
         obtain⟨hw1,hwx,hwj,hwp,hwd,hwn,hwm⟩:=ku hO hjn hxn;have hwfR:=hO.inv;unfold JB at hwfR;have HWF:=ze (show Jv k.parts by rw[hwp];exact JB.wf hO.inv);have HPT:=ze (show ∀i,i<k.parts.length→(zx k.parts i).kind=1∨yZ k.parts (zx k.parts i) by rw[hwp];exact JB.reg hO.inv);have HWO:=ze hO.good.wf;rw[←hwp]at hwn hwm
         have hf:=(by have q:=qk H3 false 138 0;rw[qV]at q;exact q:Calls Tryz.prog 19 #[.pointer (some ⟨cb,0,none⟩),.bool false,.int .i64 138,.int .i64 0] wr (Yi _ wr cb V3 k (.tuple #[])))
         have c12:=H3.has.cell 12;have c6:=H3.has.cell 6;have c7:=H3.has.cell 7;have l3:=H3.has.lt;simp only[vh,List.getElem?_toArray,List.getElem?_cons_zero,List.getElem?_cons_succ]at c6 c7 c12;have HBAD:=ze hb;rw[hb]at c12;rw[hO.ri.js,hjn]at c6;rw[hO.ri.es,hxn]at c7;change wr.cell? ⟨cb,6,none⟩=some (.int .i64 1)at c6;change wr.cell? ⟨cb,7,none⟩=some (.int .i64 1)at c7;have HWX:=ze hwx;have HWJ:=ze hwj;have HWD:=ze hwd;have HWP:=ze hwp;have HWN:=ze hwn;have HWM:=ze hwm;have HW1:=ze hw1;have HCW:=ze (HR.out.trans hchk);have HPF:=ze H3.few.1;have HLW:=ze (show ∀q,V3.own cb q→cb≤q∧q<wr.heap.size from λq hq=>H3.low hq);clear hw1 hwx hwj hwp hwd hwn hwm hwfR hchk hb hjn hxn hO
         go_wp2_with (first
          |((go_at_call 19)
            refine hf.mono ?_;rintro e w5 ⟨rfl,h5,s5⟩;(have c125:w5.cell? ⟨cb,12,none⟩=some (.int .i64 0):=by have q:=h5.has.cell 12;rw[←HBAD.out];exact q);(have l5:=h5.has.lt)))
         have HS5:=ze s5;have Pend5:zm w5 (w.heap.size+1) 32 #[.slice none 0 0,.int .i64 0,.slice none 0 0,.int .i64 0,.bool false]:=(s5.inner (w.heap.size+1) HPN.out.1 HPN.out.2).1.trans HP.out;obtain⟨g,off,Cp,ev,hc1,hc2,hg1,hSz,hPt⟩:=h5.pts (Nat.lt_of_le_of_lt (Nat.zero_le _) HWN.out.1)
         obtain⟨PL,hPL⟩:∃PL,PL=k.parts.length:=⟨_,rfl⟩
         obtain⟨RO,hRO⟩:∃RO,RO=k.ro:=⟨_,rfl⟩
         obtain⟨SZ,hSZ⟩:∃SZ,SZ=sz k.parts x:=⟨_,rfl⟩
         obtain⟨R,hRR⟩:∃R,R=xt k.parts x 0 (SZ:Nat):=⟨_,rfl⟩
         have hxPL:x<PL:=by rw[hPL];exact HWN.out.1
         have hszx:w5.cell? ⟨g,off+x*8+1,none⟩=some (.int .i64 (SZ:Nat)):=by rw[hSZ];exact hSz x HWN.out.1
         have HRG:=ze (λW (hW:Below w5.heap.size w5 W)=>(show Calls Tryz.prog 12 #[.agg #[V3.vd,.int .i64 (jj:Nat),.slice (some ⟨g,off,none⟩) PL Cp,.int .i64 (x:Nat),.bool RO],.int .i64 (x:Nat),.int .i64 0,.int .i64 (SZ:Nat)] W (KRg W R)from by
          rw[hRR,hPL];have hs:=HWF.out.size x HWN.out.1
          exact VZ (vB.up hPt hW) ⟨hc1,hc2⟩ HWF.out HPT.out _ _ _ _ _ _ _ ⟨by omega,by have:=HPF.out;have:=HWN.out.1;omega⟩ ⟨by decide,by decide⟩ ⟨by omega,by omega⟩))
         have HRO:=ze (λW (hW:Below w5.heap.size w5 W)=>(show Calls Tryz.prog 21 #[.agg #[V3.vd,.int .i64 (jj:Nat),.slice (some ⟨g,off,none⟩) PL Cp,.int .i64 (x:Nat),.bool RO],.int .i64 (x:Nat)] W λe w'=>e= .returned (.bool ((zR k.parts).getD x false))∧Below W.heap.size W w' from by
          rw[hPL]
          exact gD (vB.up hPt hW) ⟨hc1,hc2⟩ HPF.out HWO.out _ _ _ _ x HWN.out.1))
         have hcs5:zm w5 cb 61 #[V3.vd,.int .i64 (jj:Nat),.slice (some ⟨g,off,none⟩) PL Cp,.int .i64 (x:Nat),.bool RO,V3.vt,.int .i64 k.journals,.int .i64 k.exports,.int .i64 k.devices,.int .i64 k.keys,.int .i64 k.volumes,.int .i64 k.place,.int .i64 0,.int .i64 k.at']:=by
          have q:=h5.has;unfold vh at q;rw[ev,HWJ.out,HWX.out,HBAD.out,←hPL,←hRO]at q;exact q
         have HSZ:=ze hSZ;have HRR:=ze hRR;have HPL:=ze hPL;have HROk:=ze hRO;have HEV:=ze ev;have HH5:=ze h5;have HPE5:=ze Pend5;have HG1:=ze hg1;clear hPt hSz hc1 hc2 hSZ hRR hPL hRO ev s5 H3 h5 Pend5 hf c6 c7 c12 l3;refine wp_region_held_drew (S:=λwz=>zm wz cb 61 #[V3.vd,.int .i64 (jj:Nat),.slice (some ⟨g,off,none⟩) PL Cp,.int .i64 (x:Nat),.bool RO,V3.vt,.int .i64 k.journals,.int .i64 k.exports,.int .i64 k.devices,.int .i64 k.keys,.int .i64 k.volumes,.int .i64 k.place,.int .i64 0,.int .i64 k.at']∧wz.cell? ⟨g,off+x*8+1,none⟩=some (.int .i64 (SZ:Nat))) (by kernel_rfl) (⟨zt hcs5,hszx⟩) (λhHeld=>?_);refine zw 0 (some 112) (.pointer (some ⟨cb,0,none⟩)) hHeld ?_;simp only[Act.put,zh,zf,zg];refine zw 1 (some 113) (.pointer (some ⟨cb,0,none⟩)) hHeld ?_;simp only[Act.put,zh,zf,zg];refine zw 2 (some 114) (.pointer (some ⟨cb,0,none⟩)) hHeld ?_;simp only[Act.put,zh,zf,zg];refine zD 3 (some 115) (.agg #[V3.vd,.int .i64 (jj:Nat),.slice (some ⟨g,off,none⟩) PL Cp,.int .i64 (x:Nat),.bool RO]) rfl rfl (λwz hz=>JZ _ rfl cb rfl wz hz.1) hHeld ?_;simp only[Act.put,zh,zf,zg];refine zw 4 (some 116) (.pointer (some ⟨cb,0,none⟩)) hHeld ?_;simp only[Act.put,zh,zf,zg];refine zw 5 (some 117) (.pointer (some ⟨cb,0,none⟩)) hHeld ?_;simp only[Act.put,zh,zf,zg];refine zw 6 (some 118) (.pointer (some ⟨cb,0,none⟩)) hHeld ?_;simp only[Act.put,zh,zf,zg];refine zw 7 (some 119) (.pointer (some ⟨cb,3,none⟩)) hHeld ?_;simp only[Act.put,zh,zf,zg];refine zD 8 (some 120) (.int .i64 (x:Nat)) rfl rfl (λwz hz=>qm _ rfl _ rfl wz (hz.1.cell 3)) hHeld ?_;simp only[Act.put,zh,zf,zg];refine zw 9 (some 121) (.pointer (some ⟨cb,0,none⟩)) hHeld ?_;simp only[Act.put,zh,zf,zg];refine zw 10 (some 122) (.pointer (some ⟨cb,0,none⟩)) hHeld ?_;simp only[Act.put,zh,zf,zg];refine zw 11 (some 123) (.pointer (some ⟨cb,0,none⟩)) hHeld ?_;simp only[Act.put,zh,zf,zg];refine zw 12 (some 124) (.pointer (some ⟨cb,2,none⟩)) hHeld ?_;simp only[Act.put,zh,zf,zg];refine zD 13 (some 125) (.slice (some ⟨g,off,none⟩) PL Cp) rfl rfl (λwz hz=>by have q:wz.cell? ⟨cb,2,none⟩=some (.slice (some ⟨g,off,none⟩) PL Cp):=hz.1.cell 2;unfold execOp;go_simp) hHeld ?_;simp only[Act.put,zh,zf,zg];refine zw 14 (some 126) (.pointer (some ⟨cb,0,none⟩)) hHeld ?_;simp only[Act.put,zh,zf,zg];refine zw 15 (some 127) (.pointer (some ⟨cb,0,none⟩)) hHeld ?_;simp only[Act.put,zh,zf,zg];refine zw 16 (some 128) (.pointer (some ⟨cb,0,none⟩)) hHeld ?_;simp only[Act.put,zh,zf,zg];refine zw 17 (some 129) (.pointer (some ⟨cb,3,none⟩)) hHeld ?_;simp only[Act.put,zh,zf,zg];refine zD 18 (some 130) (.int .i64 (x:Nat)) rfl rfl (λwz hz=>qm _ rfl _ rfl wz (hz.1.cell 3)) hHeld ?_;simp only[Act.put,zh,zf,zg];refine zD 19 (some 131) (.pointer (some ⟨g,off+x*8,none⟩)) rfl rfl (λwz _=>zE _ _ rfl g off x PL Cp rfl rfl hxPL wz) hHeld ?_;simp only[Act.put,zh,zf,zg];refine zw 20 (some 132) (.pointer (some ⟨g,off+x*8+1,none⟩)) hHeld ?_;simp only[Act.put,zh,zf,zg];refine zD 21 (some 133) (.int .i64 (SZ:Nat)) rfl rfl (λwz hz=>qm _ rfl _ rfl wz hz.2) hHeld ?_;simp only[Act.put,zh,zf,zg];refine qY 22 (some 134) 12 #[.agg #[V3.vd,.int .i64 (jj:Nat),.slice (some ⟨g,off,none⟩) PL Cp,.int .i64 (x:Nat),.bool RO],.int .i64 (x:Nat),.int .i64 0,.int .i64 (SZ:Nat)] (by kernel_rfl) rfl rfl (by rfl) (by kernel_rfl) (HRG.out w5.drew (Below.refl _ w5).drew) ?_;rintro e w6 ⟨v1,rfl,hrg,hb6',hl6⟩;have hb6:Below w5.heap.size w5 w6:=(zr (Below.refl _ w5)).trans hb6'
         have hHeld:zm w6 cb 61 #[V3.vd,.int .i64 (jj:Nat),.slice (some ⟨g,off,none⟩) PL Cp,.int .i64 (x:Nat),.bool RO,V3.vt,.int .i64 k.journals,.int .i64 k.exports,.int .i64 k.devices,.int .i64 k.keys,.int .i64 k.volumes,.int .i64 k.place,.int .i64 0,.int .i64 k.at']∧w6.cell? ⟨g,off+x*8+1,none⟩=some (.int .i64 (SZ:Nat)):=⟨hcs5.below hb6 hcs5.lt,(hb6.cell (p:=⟨g,off+x*8+1,none⟩) HG1.out).trans hszx⟩
         refine⟨_,rfl,hHeld,?_⟩;simp only[Act.put,zh,zf,zg];refine zw 23 (some 10) (v1) hHeld ?_;simp only[Act.put,zh,zf,zg];refine wpAnyH_done (by kernel_rfl) ?_ _;have hrg6:Kw w6 w5.heap.size v1 R:=hrg;obtain⟨A1,C1,ev1,ha1,ha2,hrng⟩:=hrg6.rng;subst ev1
         obtain⟨NR,hNR⟩:∃NR,NR=R.length:=⟨_,rfl⟩
         obtain⟨B6,hB6⟩:∃B6,B6=decide (256<R.length):=⟨_,rfl⟩
         have hb6i:decide ((256:Int)<((NR:Nat):Int))=B6:=by rw[hB6,hNR];exact Bool.eq_iff_iff.2 (by simp only[decide_eq_true_eq];omega)
         have h6:=HH5.out.keep hb6;have hf20:=qk h6 B6 137 k.place
         obtain⟨K2,hK2⟩:∃K2,K2=rw2 k R:=⟨_,rfl⟩
         rw[show zA k B6 137 k.place=K2 from by rw[hK2,hB6];unfold rw2;rw[HW1.out]]at hf20
         obtain⟨BO,hBO⟩:∃BO,BO=xM R:=⟨_,rfl⟩
         have HF22:=ze (λW (hk:zZ (λg=>cb≤g∧g<wr.heap.size) W cb V3 K2)=>qk hk BO 136 K2.place);have HFL2:=ze (by rw[hK2];unfold rw2;rw[HW1.out];exact Ys k _ _ _:K2.parts=k.parts∧K2.expo=k.expo∧K2.ro=k.ro∧K2.place=k.place∧K2.devs=k.devs∧K2.jour=k.jour);have HOV:=ze (λW (hk:uG W A1 R.length (fG R))=>Ga A1 R.length C1 (fG R) W (by have:=hl6;omega) hk);have c116:w6.cell? ⟨cb,11,none⟩=some (.int .i64 k.place):=h6.has.cell 11;have l6:=h6.has.lt;have HPE6:=ze (HPE5.out.below hb6 HPE5.out.lt);have HB6:=ze hb6;have HRG6:=ze hrg6;have HK2:=ze hK2;have HBO:=ze hBO;have HB6i:=ze hb6i;have HNR:=ze hNR
         have HRNG:=ze (λW (q:∀g',w5.heap.size≤g'→g'<w6.heap.size→W.heap[g']?=w6.heap[g']?)=>(by
          obtain⟨A9,C9,ev9,_,_,r9⟩:=Kw.rng (show Kw W w5.heap.size (.slice A1 R.length C1) R from zI hrg6 (λg' o e ho=>(q g' (qR hrg6 e).2 (Array.getElem?_eq_some_iff.1 ho).1).trans ho));cases ev9
          exact r9:uG W A1 R.length (fG R)))
         rw[←hNR]at HOV HRNG ⊢;clear hrng hHeld hK2 hBO hB6 hb6i hNR hrg hb6' hl6 hrg6 hb6 ha1 ha2 h6 c125
         go_wp2_with (first
          |((with_reducible refine zi 138 rfl ?_)
            (refine zd (some 138) (.bool B6) rfl (by rfl) (yQ 256 _ rfl ((NR:Nat):Int) rfl B6 HB6i.out _) ?_))
          |((go_at_call 19)
            (with_reducible refine qN w6 ?_)
            refine hf20.mono ?_;rintro e w7 ⟨rfl,h7,s7⟩;have hov:=HOV.out w7 (HRNG.out w7 (λg' h1 h2=>s7.only.block g' h2 (λe=>by have q1:=(HLW.out g' e).2;have q2:=HS5.out.size;omega)));have HH7:=ze h7;have HS7:=ze s7;(clear c116 h7 s7))
          |((go_at_call 20)
            refine hov.mono ?_;rintro e w8 ⟨OI,OJ,rfl,hovr,hb8⟩;have hoi:=zc2 HNR.out HBO.out hovr;have h8:=HH7.out.keep hb8;have hf22:=HF22.out w8 h8;have c118:w8.cell? ⟨cb,11,none⟩=some (.int .i64 K2.place):=h8.has.cell 11;have l8:=h8.has.lt;have HH8:=ze h8;have HB8:=ze hb8;(clear h8 hb8 hovr))
          |((with_reducible refine zi 151 rfl ?_)
            (refine zd (some 151) (.bool BO) rfl (by rfl) (Qd 0 _ rfl OI rfl BO hoi _) ?_))
          |((go_at_call 19)
            (with_reducible refine qN w8 ?_)
            refine hf22.mono ?_;(rintro e w9 ⟨rfl,h9,s9⟩)))
         obtain⟨K3,hK3⟩:∃K3,K3=Dy k R:=⟨_,rfl⟩
         have h9:zZ (λg=>cb≤g∧g<wr.heap.size) w9 cb V3 K3:=by
          rw[hK3];unfold Dy;rw[←HK2.out,←HBO.out];exact h9
         obtain⟨fp,fe,fr,fl,fd,fj⟩:K3.parts=k.parts∧K3.expo=k.expo∧K3.ro=k.ro∧K3.place=k.place∧K3.devs=k.devs∧K3.jour=k.jour:=by
          obtain⟨a1,a2,a3,a4,a5,a6⟩:=HFL2.out;obtain⟨b1,b2,b3,b4,b5,b6⟩:=Ys K2 (xM R) 136 K2.place;rw[hK3];unfold Dy;rw[←HK2.out];exact⟨b1.trans a1,b2.trans a2,b3.trans a3,b4.trans a4,b5.trans a5,b6.trans a6⟩
         have hcs9:zm w9 cb 61 #[V3.vd,.int .i64 (jj:Nat),.slice (some ⟨g,off,none⟩) PL Cp,.int .i64 (x:Nat),.bool RO,V3.vt,.int .i64 K3.journals,.int .i64 K3.exports,.int .i64 K3.devices,.int .i64 K3.keys,.int .i64 K3.volumes,.int .i64 K3.place,.int .i64 K3.bad,.int .i64 K3.at']:=by
          have q:=h9.has;unfold vh at q;rw[HEV.out,fj,fe,fr,HWJ.out,HWX.out,←HPL.out,←HROk.out]at q;exact q
         have hs79:Sp (V3.own cb) w6 (V3.own cb) w9:=(HS7.out.trans (Sp.of HB8.out)).trans s9;have hb59:Below w5.heap.size w5 w6:=HB6.out;have HS9:=ze ((Sp.of (F:=V3.own cb) hb59).trans hs79);have HPE9:=ze (show zm w9 (w.heap.size+1) 32 #[.slice none 0 0,.int .i64 0,.slice none 0 0,.int .i64 0,.bool false]from(hs79.inner (w.heap.size+1) (by have:=HPE6.out.lt;omega) HPN.out.2).1.trans HPE6.out)
         obtain⟨ON,hON⟩:∃ON,ON=(zR k.parts).getD x false:=⟨_,rfl⟩
         have HON:=ze hON;rw[←hON]at HRO;have HF9:=ze (And.intro fp (And.intro fd fj));have HFR:=ze (show K3.ro=k.ro from fr)
         have HRT:=ze (show ∀W,Below w9.heap.size w9 W→Calls Tryz.prog 21 #[.agg #[V3.vd,.int .i64 (jj:Nat),.slice (some ⟨g,off,none⟩) PL Cp,.int .i64 (x:Nat),.bool RO],.int .i64 (x:Nat)] W λe w'=>e= .returned (.bool ON)∧Below W.heap.size W w' from λW hW=>by
          obtain⟨g',off',Cp',ev',hc1,hc2,hg1,hSz,hPt⟩:=h9.pts (by rw[fp];exact Nat.lt_of_le_of_lt (Nat.zero_le _) HWN.out.1);rw[HEV.out,←fp]at ev';cases ev';rw[hON,HPL.out,←fp]
          exact gD (vB.up hPt hW) ⟨hc1,hc2⟩ (by rw[fp];exact HPF.out) (by rw[fp];exact HWO.out) _ _ _ _ x (by rw[fp];exact HWN.out.1))
         have HK3:=ze hK3;have HH9:=ze h9;clear hK3 hON s9 hb59 hs79 h9 hoi c118 hf22 hov hf20 HRO fp fe fr fl fd fj;refine wp_region_held_drew (S:=λwz=>zm wz cb 61 #[V3.vd,.int .i64 (jj:Nat),.slice (some ⟨g,off,none⟩) PL Cp,.int .i64 (x:Nat),.bool RO,V3.vt,.int .i64 K3.journals,.int .i64 K3.exports,.int .i64 K3.devices,.int .i64 K3.keys,.int .i64 K3.volumes,.int .i64 K3.place,.int .i64 K3.bad,.int .i64 K3.at']) (by kernel_rfl) (zt hcs9) (λhHeld=>?_);refine zw 0 (some 157) (.pointer (some ⟨cb,0,none⟩)) hHeld ?_;simp only[Act.put,zh,zf,zg];refine zw 1 (some 158) (.pointer (some ⟨cb,0,none⟩)) hHeld ?_;simp only[Act.put,zh,zf,zg];refine zw 2 (some 159) (.pointer (some ⟨cb,0,none⟩)) hHeld ?_;simp only[Act.put,zh,zf,zg];refine zD 3 (some 160) (.agg #[V3.vd,.int .i64 (jj:Nat),.slice (some ⟨g,off,none⟩) PL Cp,.int .i64 (x:Nat),.bool RO]) rfl rfl (λwz hz=>JZ _ rfl cb rfl wz hz) hHeld ?_;simp only[Act.put,zh,zf,zg];refine zw 4 (some 161) (.pointer (some ⟨cb,0,none⟩)) hHeld ?_;simp only[Act.put,zh,zf,zg];refine zw 5 (some 162) (.pointer (some ⟨cb,0,none⟩)) hHeld ?_;simp only[Act.put,zh,zf,zg];refine zw 6 (some 163) (.pointer (some ⟨cb,0,none⟩)) hHeld ?_;simp only[Act.put,zh,zf,zg];refine zw 7 (some 164) (.pointer (some ⟨cb,3,none⟩)) hHeld ?_;simp only[Act.put,zh,zf,zg];refine zD 8 (some 165) (.int .i64 (x:Nat)) rfl rfl (λwz hz=>qm _ rfl _ rfl wz (hz.cell 3)) hHeld ?_;simp only[Act.put,zh,zf,zg];refine qY 9 (some 166) 21 #[.agg #[V3.vd,.int .i64 (jj:Nat),.slice (some ⟨g,off,none⟩) PL Cp,.int .i64 (x:Nat),.bool RO],.int .i64 (x:Nat)] (by kernel_rfl) rfl rfl (by rfl) (by kernel_rfl) (HRT.out w9.drew (Below.refl _ w9).drew) ?_;rintro e wA ⟨rfl,hbA'⟩;have hbA:Below w9.heap.size w9 wA:=(zr (Below.refl _ w9)).trans hbA';have hHeld:zm wA cb 61 #[V3.vd,.int .i64 (jj:Nat),.slice (some ⟨g,off,none⟩) PL Cp,.int .i64 (x:Nat),.bool RO,V3.vt,.int .i64 K3.journals,.int .i64 K3.exports,.int .i64 K3.devices,.int .i64 K3.keys,.int .i64 K3.volumes,.int .i64 K3.place,.int .i64 K3.bad,.int .i64 K3.at']:=hcs9.below hbA hcs9.lt;refine⟨_,rfl,hHeld,?_⟩;simp only[Act.put,zh,zf,zg];refine zw 10 (some 13) (.bool ON) hHeld ?_;simp only[Act.put,zh,zf,zg];refine wpAnyH_done (by kernel_rfl) ?_ _;have hA:=HH9.out.keep hbA;have hcsA0:=ze hHeld;have HPA:=ze (HPE9.out.below hbA HPE9.out.lt);have cA4:wA.cell? ⟨cb,4,none⟩=some (.bool RO):=hHeld.cell 4;have fA4:=hHeld.free 4;have lA:=hHeld.lt;have cA12:wA.cell? ⟨cb,12,none⟩=some (.int .i64 K3.bad):=hHeld.cell 12
         obtain⟨K4,hK4⟩:∃K4,K4= { K3 with ro:=RO||ON }:=⟨_,rfl⟩
         obtain⟨h4,s4⟩:=hA.put K4 4 (.bool (RO||ON)) (by rw[hK4];rfl) (by rw[hK4]) (by rw[hK4]) (by rw[hK4]);have HSA:=ze (((HS9.out.trans (Sp.of hbA)).trans s4))
         have HW4:=ze (show K4=rw4 k R ON by
          rw[hK4,HK3.out,HROk.out];unfold rw4
          rw[show(Dy k R).ro=k.ro from(congrArg Rk.ro HK3.out).symm.trans HFR.out])
         have HH4:=ze h4;have HK4:=ze hK4;have HB4:=ze (show K4.bad=K3.bad∧K4.at'=K3.at' by rw[hK4];exact⟨rfl,rfl⟩);have hcsA:zm (wA.setCell ⟨cb,4,none⟩ (.bool (RO||ON))) cb 61 #[V3.vd,.int .i64 (jj:Nat),.slice (some ⟨g,off,none⟩) PL Cp,.int .i64 (x:Nat),.bool (RO||ON),V3.vt,.int .i64 K3.journals,.int .i64 K3.exports,.int .i64 K3.devices,.int .i64 K3.keys,.int .i64 K3.volumes,.int .i64 K3.place,.int .i64 K3.bad,.int .i64 K3.at']:=hHeld.putP 4 _;have PA:zm (wA.setCell ⟨cb,4,none⟩ (.bool (RO||ON))) (w.heap.size+1) 32 #[.slice none 0 0,.int .i64 0,.slice none 0 0,.int .i64 0,.bool false]:=HPA.out.other (p:=⟨cb,4,none⟩) (show(w.heap.size+1)≠cb by have:=HCB.out;omega) _;clear hHeld hbA' hA hbA h4 s4 hcs9 hcs5 hK4;cases hS:vA c with
         |error er =>
          obtain⟨ec,ea⟩:=er;have hm:=HWM.out;rw[hS]at hm;obtain⟨hec,hm1,hm2⟩:=hm;rw[←HSZ.out,←HRR.out,←HK3.out]at hm1 hm2;have HRE:=ze (HCW.out.trans hS)
          obtain⟨KB,hKB⟩:∃KB,KB=K3.bad:=⟨_,rfl⟩
          obtain⟨KA,hKA⟩:∃KA,KA=K3.at':=⟨_,rfl⟩
          have hkb0:¬KB=0:=by rw[hKB,hm1];omega
          have hkb1:(KB==0)=false:=by rw[beq_eq_false_iff_ne];exact hkb0
          have hkb2:decide (KB=0)=false:=decide_eq_false hkb0;have hkb3:(KB != 0)=true:=by rw[bne,hkb1];rfl
          rw[←hKB]at cA12;rw[←hKB,←hKA]at hcsA;have HKB:=ze (hKB.trans hm1);have HKA:=ze (hKA.trans hm2)
          have hBEL:=(HBr.out.trans ((HS5.out.trans HSA.out).below HBr.out.size (λq hq=>by have:=(HLW.out q hq).1;have:=HCB.out;omega)))
          have HBEL:=ze hBEL;have HCA:=ze hcsA;have HPEN:=ze PA
          obtain⟨WX,hWX⟩:∃WX,WX=(wA.setCell ⟨cb,4,none⟩ (.bool (RO||ON))):=⟨_,rfl⟩
          rw[←hWX]at HBEL HCA HPEN;have HWX2:=ze hWX;clear hS hm1 hm2 hKB hKA hBEL hcsA PA hWX;cases RO with
          |true =>
           go_wp2
           rw[show wA.setCell ⟨cb,4,none⟩ (.bool true)=WX from HWX2.out.symm];have hcsX:=HCA.out;have Pend:=HPEN.out;refine wp_region_held_drew (S:=λwz=>zm wz cb 61 #[V3.vd,.int .i64 (jj:Nat),.slice (some ⟨g,off,none⟩) PL Cp,.int .i64 (x:Nat),.bool (true||ON),V3.vt,.int .i64 K3.journals,.int .i64 K3.exports,.int .i64 K3.devices,.int .i64 K3.keys,.int .i64 K3.volumes,.int .i64 K3.place,.int .i64 KB,.int .i64 KA]∧zm wz (w.heap.size+1) 32 #[.slice none 0 0,.int .i64 0,.slice none 0 0,.int .i64 0,.bool false]) (by kernel_rfl) (⟨zt hcsX,zt Pend⟩) (λhHeld=>?_);refine zD 0 (some 184) (.agg #[.slice none 0 0,.int .i64 0,.slice none 0 0,.int .i64 0,.bool false]) rfl rfl (λ_ _=>by kernel_rfl) hHeld ?_;simp only[Act.put,zh,zf,zg];refine zw 1 (some 185) (.pointer (some ⟨cb,0,none⟩)) hHeld ?_;simp only[Act.put,zh,zf,zg];refine zw 2 (some 186) (.pointer (some ⟨cb,0,none⟩)) hHeld ?_;simp only[Act.put,zh,zf,zg];refine zw 3 (some 187) (.pointer (some ⟨cb,12,none⟩)) hHeld ?_;simp only[Act.put,zh,zf,zg];refine zD 4 (some 188) (.int .i64 KB) rfl rfl (λwz hz=>vM _ rfl _ rfl wz (hz.1.cell 12)) hHeld ?_;simp only[Act.put,zh,zf,zg];refine zw 5 (some 189) (.pointer (some ⟨cb,0,none⟩)) hHeld ?_;simp only[Act.put,zh,zf,zg];refine zw 6 (some 190) (.pointer (some ⟨cb,0,none⟩)) hHeld ?_;simp only[Act.put,zh,zf,zg];refine zw 7 (some 191) (.pointer (some ⟨cb,13,none⟩)) hHeld ?_;simp only[Act.put,zh,zf,zg];refine zD 8 (some 192) (.int .i64 KA) rfl rfl (λwz hz=>qm _ rfl _ rfl wz (hz.1.cell 13)) hHeld ?_;simp only[Act.put,zh,zf,zg]
           have hH3:zm (WX.drew.setRow (w.heap.size+1) #[.slice none 0 0,.int .i64 0,.slice none 0 0,.int .i64 0,.bool false]) cb 61 #[V3.vd,.int .i64 (jj:Nat),.slice (some ⟨g,off,none⟩) PL Cp,.int .i64 (x:Nat),.bool (true||ON),V3.vt,.int .i64 K3.journals,.int .i64 K3.exports,.int .i64 K3.devices,.int .i64 K3.keys,.int .i64 K3.volumes,.int .i64 K3.place,.int .i64 KB,.int .i64 KA]∧zm (WX.drew.setRow (w.heap.size+1) #[.slice none 0 0,.int .i64 0,.slice none 0 0,.int .i64 0,.bool false]) (w.heap.size+1) 32 #[.slice none 0 0,.int .i64 0,.slice none 0 0,.int .i64 0,.bool false]:=⟨hHeld.1.setRow_other (by have:=HCB.out;omega) _,hHeld.2.setRow _⟩
           refine vz 9 (by kernel_rfl) (vg none (WX.drew.setRow (w.heap.size+1) #[.slice none 0 0,.int .i64 0,.slice none 0 0,.int .i64 0,.bool false]) rfl rfl (by rfl) (qP 32 _ _ rfl (w.heap.size+1) rfl #[.slice none 0 0,.int .i64 0,.slice none 0 0,.int .i64 0,.bool false] rfl 32 (by kernel_rfl) _ hHeld.2 rfl (by kernel_rfl)) ⟨hH3,?_⟩);simp only[Act.put];refine zD 10 (some 3) (.int .i64 KB) rfl rfl (λ_ _=>rfl) hH3 ?_;simp only[Act.put,zh,zf,zg];refine zD 11 (some 4) (.int .i64 KA) rfl rfl (λ_ _=>rfl) hH3 ?_;simp only[Act.put,zh,zf,zg];refine wpAnyH_done (by kernel_rfl) ?_ _
           go_wp2
           refine yD rfl rfl rfl rfl hH3.2 rfl ?_;refine⟨jd (zr HBEL.out) (by omega) _,?_⟩;rw[HKB.out,HKA.out];exact Q0.err HRE.out _
          |false =>
           go_wp2
           rw[show wA.setCell ⟨cb,4,none⟩ (.bool ON)=WX from HWX2.out.symm];have hcsX:=HCA.out;have Pend:=HPEN.out;refine wp_region_held_drew (S:=λwz=>zm wz cb 61 #[V3.vd,.int .i64 (jj:Nat),.slice (some ⟨g,off,none⟩) PL Cp,.int .i64 (x:Nat),.bool (false||ON),V3.vt,.int .i64 K3.journals,.int .i64 K3.exports,.int .i64 K3.devices,.int .i64 K3.keys,.int .i64 K3.volumes,.int .i64 K3.place,.int .i64 KB,.int .i64 KA]∧zm wz (w.heap.size+1) 32 #[.slice none 0 0,.int .i64 0,.slice none 0 0,.int .i64 0,.bool false]) (by kernel_rfl) (⟨zt hcsX,zt Pend⟩) (λhHeld=>?_);refine zD 0 (some 184) (.agg #[.slice none 0 0,.int .i64 0,.slice none 0 0,.int .i64 0,.bool false]) rfl rfl (λ_ _=>by kernel_rfl) hHeld ?_;simp only[Act.put,zh,zf,zg];refine zw 1 (some 185) (.pointer (some ⟨cb,0,none⟩)) hHeld ?_;simp only[Act.put,zh,zf,zg];refine zw 2 (some 186) (.pointer (some ⟨cb,0,none⟩)) hHeld ?_;simp only[Act.put,zh,zf,zg];refine zw 3 (some 187) (.pointer (some ⟨cb,12,none⟩)) hHeld ?_;simp only[Act.put,zh,zf,zg];refine zD 4 (some 188) (.int .i64 KB) rfl rfl (λwz hz=>vM _ rfl _ rfl wz (hz.1.cell 12)) hHeld ?_;simp only[Act.put,zh,zf,zg];refine zw 5 (some 189) (.pointer (some ⟨cb,0,none⟩)) hHeld ?_;simp only[Act.put,zh,zf,zg];refine zw 6 (some 190) (.pointer (some ⟨cb,0,none⟩)) hHeld ?_;simp only[Act.put,zh,zf,zg];refine zw 7 (some 191) (.pointer (some ⟨cb,13,none⟩)) hHeld ?_;simp only[Act.put,zh,zf,zg];refine zD 8 (some 192) (.int .i64 KA) rfl rfl (λwz hz=>qm _ rfl _ rfl wz (hz.1.cell 13)) hHeld ?_;simp only[Act.put,zh,zf,zg]
           have hH3:zm (WX.drew.setRow (w.heap.size+1) #[.slice none 0 0,.int .i64 0,.slice none 0 0,.int .i64 0,.bool false]) cb 61 #[V3.vd,.int .i64 (jj:Nat),.slice (some ⟨g,off,none⟩) PL Cp,.int .i64 (x:Nat),.bool (false||ON),V3.vt,.int .i64 K3.journals,.int .i64 K3.exports,.int .i64 K3.devices,.int .i64 K3.keys,.int .i64 K3.volumes,.int .i64 K3.place,.int .i64 KB,.int .i64 KA]∧zm (WX.drew.setRow (w.heap.size+1) #[.slice none 0 0,.int .i64 0,.slice none 0 0,.int .i64 0,.bool false]) (w.heap.size+1) 32 #[.slice none 0 0,.int .i64 0,.slice none 0 0,.int .i64 0,.bool false]:=⟨hHeld.1.setRow_other (by have:=HCB.out;omega) _,hHeld.2.setRow _⟩
           refine vz 9 (by kernel_rfl) (vg none (WX.drew.setRow (w.heap.size+1) #[.slice none 0 0,.int .i64 0,.slice none 0 0,.int .i64 0,.bool false]) rfl rfl (by rfl) (qP 32 _ _ rfl (w.heap.size+1) rfl #[.slice none 0 0,.int .i64 0,.slice none 0 0,.int .i64 0,.bool false] rfl 32 (by kernel_rfl) _ hHeld.2 rfl (by kernel_rfl)) ⟨hH3,?_⟩);simp only[Act.put];refine zD 10 (some 3) (.int .i64 KB) rfl rfl (λ_ _=>rfl) hH3 ?_;simp only[Act.put,zh,zf,zg];refine zD 11 (some 4) (.int .i64 KA) rfl rfl (λ_ _=>rfl) hH3 ?_;simp only[Act.put,zh,zf,zg];refine wpAnyH_done (by kernel_rfl) ?_ _
           go_wp2
           refine yD rfl rfl rfl rfl hH3.2 rfl ?_;refine⟨jd (zr HBEL.out) (by omega) _,?_⟩;rw[HKB.out,HKA.out];exact Q0.err HRE.out _
         |ok s =>
          have hm:=HWM.out;rw[hS]at hm;rw[←HSZ.out,←HRR.out,←HON.out,←HW4.out]at hm;obtain⟨hm1,hm2⟩:=hm;have HRE:=ze (HCW.out.trans hS);have hk3:K3.bad=0:=by rw[←HB4.out.1,hm1];exact HBAD.out
          rw[hk3]at cA12
          have hro:(RO||ON)=s.ro:=by
           have q:=congrArg Rk.ro hm1;rw[HK4.out]at q;exact q
          have HRS:=ze (show s.jour=jj∧s.expo=x by rw[hm2];exact⟨rfl,rfl⟩);have HRO4:=ze hro
          have HSTK:=ze (show xX (wA.setCell ⟨cb,4,none⟩ (.bool (RO||ON))) cb s V3.vd (.slice (some ⟨g,off,none⟩) PL Cp)from by
           have q:=(HH4.out.mono (E':=λg=>cb≤g) (λ_ _ _ e=>e.1)).stk (Nat.le_refl cb) s (by rw[HK4.out,hm2];show K3.devs=_;rw[HF9.out.2.1,HWD.out]) (by rw[HK4.out,hm2];show K3.parts=_;rw[HF9.out.1,HWP.out]);rw[HEV.out,←HPL.out]at q
           exact q)
          have HBEL:=ze ((HBr.out.trans ((HS5.out.trans HSA.out).below HBr.out.size (λq hq=>by have:=(HLW.out q hq).1;have:=HCB.out;omega))));have HSBC:=ze (show(w.heap.size+1)<cb by have:=HCB.out;omega);obtain⟨Ad,Cd,evd⟩:=xR HH4.out.devs
          obtain⟨DL,hDL⟩:∃DL,DL=K4.devs.length:=⟨_,rfl⟩
          rw[←hDL]at evd;have HVD:=ze evd;have d0:wA.cell? ⟨cb,0,none⟩=some (.slice Ad DL Cd):=by rw[←evd];exact(hcsA0.out).cell 0
          have d1:wA.cell? ⟨cb,1,none⟩=some (.int .i64 (jj:Nat)):=((hcsA0.out).cell 1)
          have d2:wA.cell? ⟨cb,2,none⟩=some (.slice (some ⟨g,off,none⟩) PL Cp):=((hcsA0.out).cell 2)
          have d3:wA.cell? ⟨cb,3,none⟩=some (.int .i64 (x:Nat)):=((hcsA0.out).cell 3)
          have e0:=HPA.out.cell 0;have e1:=HPA.out.cell 1;have e2:=HPA.out.cell 2;have e3:=HPA.out.cell 3;have e4:=HPA.out.cell 4;have f0:=HPA.out.free 0;have f1:=HPA.out.free 1;have f2:=HPA.out.free 2;have f3:=HPA.out.free 3;have f4:=HPA.out.free 4;have el:=HPA.out.lt;simp only[qH,qG,qI]at e0 e1 e2 e3 e4;have hn1:¬cb=(w.heap.size+1):=by have:=HCB.out;omega
          have hn2:¬(w.heap.size+1)=cb:=by have:=HCB.out;omega
          clear hS hm1 hm2 hk3 hro hcsA evd hDL;have HPAA:=ze PA;clear PA;cases RO with
          |true =>
           go_wp2
           refine yD rfl rfl rfl rfl (HPAA.out.set5 _ _ _ _ _) rfl ?_;refine⟨Xn HBEL.out (Nat.le_succ _) _ _ _ _ _,?_⟩;rw[HRE.out];obtain⟨hj1,hx1⟩:=HRS.out;have hsk:=HSTK.out;rw[HVD.out]at hsk;refine⟨_,_,by rw[hj1,hx1,←HRO4.out];rfl,(hsk.keep (by simp) (λq hq hB=>?_)).low (by have:=HCB.out;omega)⟩;exact XK _ (by have:=HSBC.out;omega) _ _ _ _ _
          |false =>
           go_wp2
           refine yD rfl rfl rfl rfl (HPAA.out.set5 _ _ _ _ _) rfl ?_;refine⟨Xn HBEL.out (Nat.le_succ _) _ _ _ _ _,?_⟩;rw[HRE.out];obtain⟨hj1,hx1⟩:=HRS.out;have hsk:=HSTK.out;rw[HVD.out]at hsk;refine⟨_,_,by rw[hj1,hx1,←HRO4.out];rfl,(hsk.keep (by simp) (λq hq hB=>?_)).low (by have:=HCB.out;omega)⟩;exact XK _ (by have:=HSBC.out;omega) _ _ _ _ _
      ·obtain⟨ec,ea,hec,hchk,hbd,hae⟩:=HK.out.bad hb
       have HRE:=ze (HR.out.trans hchk);have hf:=λb=>(by have q:=qk H3 b 138 0;rw[qy hb]at q;exact q:Calls Tryz.prog 19 #[.pointer (some ⟨cb,0,none⟩),.bool b,.int .i64 138,.int .i64 0] wr (Yi _ wr cb V3 k (.tuple #[])))
       obtain⟨KB,hKB⟩:∃KB:Int,KB=(ec:Nat):=⟨_,rfl⟩
       have hkb0:¬KB=0:=by omega
       have hkb1:(KB==0)=false:=by rw[beq_eq_false_iff_ne];exact hkb0
       have hkb2:decide (KB=0)=false:=decide_eq_false hkb0;have hkb3:(KB != 0)=true:=by rw[bne,hkb1];rfl
       obtain⟨KA,hKA⟩:∃KA:Int,KA=ea:=⟨_,rfl⟩
       have HKB:=ze hKB;have HKA:=ze hKA;have HC12:=ze (show(vh V3 k)[12]?=some (.int .i64 KB) by show some (Value.int .i64 k.bad)=_;rw[hbd,hKB]);have HCS:=ze (show vh V3 k= #[V3.vd,.int .i64 k.jour,V3.vp,.int .i64 k.expo,.bool k.ro,V3.vt,.int .i64 k.journals,.int .i64 k.exports,.int .i64 k.devices,.int .i64 k.keys,.int .i64 k.volumes,.int .i64 k.place,.int .i64 KB,.int .i64 KA] by unfold vh;rw[hbd,hae,hKB,hKA]);have c12:=(H3.has.cell 12).trans HC12.out;have c6:=H3.has.cell 6;have c7:=H3.has.cell 7;have l3:=H3.has.lt;simp only[vh,List.getElem?_toArray,List.getElem?_cons_zero,List.getElem?_cons_succ]at c6 c7
       obtain⟨JO,hJO⟩:∃JO,JO=k.journals:=⟨_,rfl⟩
       rw[←hJO]at c6;clear hJO hchk hbd hae hKB hKA hb hec;by_cases hJ0:JO=0
       ·subst hJ0
        go_wp2_with (first
         |((go_at_call 19)
           refine(hf _).mono ?_;rintro e w5 ⟨rfl,h5,s5⟩;have c125:=(h5.has.cell 12).trans HC12.out;(have l5:=h5.has.lt)))
        have hcs5:zm w5 cb 61 #[V3.vd,.int .i64 k.jour,V3.vp,.int .i64 k.expo,.bool k.ro,V3.vt,.int .i64 k.journals,.int .i64 k.exports,.int .i64 k.devices,.int .i64 k.keys,.int .i64 k.volumes,.int .i64 k.place,.int .i64 KB,.int .i64 KA]:=by rw[←HCS.out];exact h5.has
        have Pend:zm w5 (w.heap.size+1) 32 #[.slice none 0 0,.int .i64 0,.slice none 0 0,.int .i64 0,.bool false]:=(s5.inner (w.heap.size+1) HPN.out.1 HPN.out.2).1.trans HP.out;refine wp_region_held_drew (S:=λwz=>zm wz cb 61 #[V3.vd,.int .i64 k.jour,V3.vp,.int .i64 k.expo,.bool k.ro,V3.vt,.int .i64 k.journals,.int .i64 k.exports,.int .i64 k.devices,.int .i64 k.keys,.int .i64 k.volumes,.int .i64 k.place,.int .i64 KB,.int .i64 KA]∧zm wz (w.heap.size+1) 32 #[.slice none 0 0,.int .i64 0,.slice none 0 0,.int .i64 0,.bool false]) (by kernel_rfl) (⟨zt hcs5,zt Pend⟩) (λhHeld=>?_);refine zD 0 (some 184) (.agg #[.slice none 0 0,.int .i64 0,.slice none 0 0,.int .i64 0,.bool false]) rfl rfl (λ_ _=>by kernel_rfl) hHeld ?_;simp only[Act.put,zh,zf,zg];refine zw 1 (some 185) (.pointer (some ⟨cb,0,none⟩)) hHeld ?_;simp only[Act.put,zh,zf,zg];refine zw 2 (some 186) (.pointer (some ⟨cb,0,none⟩)) hHeld ?_;simp only[Act.put,zh,zf,zg];refine zw 3 (some 187) (.pointer (some ⟨cb,12,none⟩)) hHeld ?_;simp only[Act.put,zh,zf,zg];refine zD 4 (some 188) (.int .i64 KB) rfl rfl (λwz hz=>vM _ rfl _ rfl wz (hz.1.cell 12)) hHeld ?_;simp only[Act.put,zh,zf,zg];refine zw 5 (some 189) (.pointer (some ⟨cb,0,none⟩)) hHeld ?_;simp only[Act.put,zh,zf,zg];refine zw 6 (some 190) (.pointer (some ⟨cb,0,none⟩)) hHeld ?_;simp only[Act.put,zh,zf,zg];refine zw 7 (some 191) (.pointer (some ⟨cb,13,none⟩)) hHeld ?_;simp only[Act.put,zh,zf,zg];refine zD 8 (some 192) (.int .i64 KA) rfl rfl (λwz hz=>qm _ rfl _ rfl wz (hz.1.cell 13)) hHeld ?_;simp only[Act.put,zh,zf,zg]
        have hH3:zm (w5.drew.setRow (w.heap.size+1) #[.slice none 0 0,.int .i64 0,.slice none 0 0,.int .i64 0,.bool false]) cb 61 #[V3.vd,.int .i64 k.jour,V3.vp,.int .i64 k.expo,.bool k.ro,V3.vt,.int .i64 k.journals,.int .i64 k.exports,.int .i64 k.devices,.int .i64 k.keys,.int .i64 k.volumes,.int .i64 k.place,.int .i64 KB,.int .i64 KA]∧zm (w5.drew.setRow (w.heap.size+1) #[.slice none 0 0,.int .i64 0,.slice none 0 0,.int .i64 0,.bool false]) (w.heap.size+1) 32 #[.slice none 0 0,.int .i64 0,.slice none 0 0,.int .i64 0,.bool false]:=⟨hHeld.1.setRow_other (by have:=HCB.out;omega) _,hHeld.2.setRow _⟩
        refine vz 9 (by kernel_rfl) (vg none (w5.drew.setRow (w.heap.size+1) #[.slice none 0 0,.int .i64 0,.slice none 0 0,.int .i64 0,.bool false]) rfl rfl (by rfl) (qP 32 _ _ rfl (w.heap.size+1) rfl #[.slice none 0 0,.int .i64 0,.slice none 0 0,.int .i64 0,.bool false] rfl 32 (by kernel_rfl) _ hHeld.2 rfl (by kernel_rfl)) ⟨hH3,?_⟩);simp only[Act.put];refine zD 10 (some 3) (.int .i64 KB) rfl rfl (λ_ _=>rfl) hH3 ?_;simp only[Act.put,zh,zf,zg];refine zD 11 (some 4) (.int .i64 KA) rfl rfl (λ_ _=>rfl) hH3 ?_;simp only[Act.put,zh,zf,zg];refine wpAnyH_done (by kernel_rfl) ?_ _
        go_wp2
        refine yD rfl rfl rfl rfl hH3.2 rfl ?_;refine⟨jd (zr ((HBr.out).trans (s5.below HBr.out.size (λq hq=>by have:=(H3.low hq).1;have:=HCB.out;omega)))) (by omega) _,?_⟩;rw[HKB.out,HKA.out];exact Q0.err HRE.out _
       ·have hJ1:(JO==0)=false:=by rw[beq_eq_false_iff_ne];exact hJ0
        have hJ2:decide (JO=0)=false:=decide_eq_false hJ0
        go_wp2_with (first
         |((go_at_call 19)
           refine(hf _).mono ?_;rintro e w5 ⟨rfl,h5,s5⟩;have c125:=(h5.has.cell 12).trans HC12.out;(have l5:=h5.has.lt)))
        have hcs5:zm w5 cb 61 #[V3.vd,.int .i64 k.jour,V3.vp,.int .i64 k.expo,.bool k.ro,V3.vt,.int .i64 k.journals,.int .i64 k.exports,.int .i64 k.devices,.int .i64 k.keys,.int .i64 k.volumes,.int .i64 k.place,.int .i64 KB,.int .i64 KA]:=by rw[←HCS.out];exact h5.has
        have Pend:zm w5 (w.heap.size+1) 32 #[.slice none 0 0,.int .i64 0,.slice none 0 0,.int .i64 0,.bool false]:=(s5.inner (w.heap.size+1) HPN.out.1 HPN.out.2).1.trans HP.out;refine wp_region_held_drew (S:=λwz=>zm wz cb 61 #[V3.vd,.int .i64 k.jour,V3.vp,.int .i64 k.expo,.bool k.ro,V3.vt,.int .i64 k.journals,.int .i64 k.exports,.int .i64 k.devices,.int .i64 k.keys,.int .i64 k.volumes,.int .i64 k.place,.int .i64 KB,.int .i64 KA]∧zm wz (w.heap.size+1) 32 #[.slice none 0 0,.int .i64 0,.slice none 0 0,.int .i64 0,.bool false]) (by kernel_rfl) (⟨zt hcs5,zt Pend⟩) (λhHeld=>?_);refine zD 0 (some 184) (.agg #[.slice none 0 0,.int .i64 0,.slice none 0 0,.int .i64 0,.bool false]) rfl rfl (λ_ _=>by kernel_rfl) hHeld ?_;simp only[Act.put,zh,zf,zg];refine zw 1 (some 185) (.pointer (some ⟨cb,0,none⟩)) hHeld ?_;simp only[Act.put,zh,zf,zg];refine zw 2 (some 186) (.pointer (some ⟨cb,0,none⟩)) hHeld ?_;simp only[Act.put,zh,zf,zg];refine zw 3 (some 187) (.pointer (some ⟨cb,12,none⟩)) hHeld ?_;simp only[Act.put,zh,zf,zg];refine zD 4 (some 188) (.int .i64 KB) rfl rfl (λwz hz=>vM _ rfl _ rfl wz (hz.1.cell 12)) hHeld ?_;simp only[Act.put,zh,zf,zg];refine zw 5 (some 189) (.pointer (some ⟨cb,0,none⟩)) hHeld ?_;simp only[Act.put,zh,zf,zg];refine zw 6 (some 190) (.pointer (some ⟨cb,0,none⟩)) hHeld ?_;simp only[Act.put,zh,zf,zg];refine zw 7 (some 191) (.pointer (some ⟨cb,13,none⟩)) hHeld ?_;simp only[Act.put,zh,zf,zg];refine zD 8 (some 192) (.int .i64 KA) rfl rfl (λwz hz=>qm _ rfl _ rfl wz (hz.1.cell 13)) hHeld ?_;simp only[Act.put,zh,zf,zg]
        have hH3:zm (w5.drew.setRow (w.heap.size+1) #[.slice none 0 0,.int .i64 0,.slice none 0 0,.int .i64 0,.bool false]) cb 61 #[V3.vd,.int .i64 k.jour,V3.vp,.int .i64 k.expo,.bool k.ro,V3.vt,.int .i64 k.journals,.int .i64 k.exports,.int .i64 k.devices,.int .i64 k.keys,.int .i64 k.volumes,.int .i64 k.place,.int .i64 KB,.int .i64 KA]∧zm (w5.drew.setRow (w.heap.size+1) #[.slice none 0 0,.int .i64 0,.slice none 0 0,.int .i64 0,.bool false]) (w.heap.size+1) 32 #[.slice none 0 0,.int .i64 0,.slice none 0 0,.int .i64 0,.bool false]:=⟨hHeld.1.setRow_other (by have:=HCB.out;omega) _,hHeld.2.setRow _⟩
        refine vz 9 (by kernel_rfl) (vg none (w5.drew.setRow (w.heap.size+1) #[.slice none 0 0,.int .i64 0,.slice none 0 0,.int .i64 0,.bool false]) rfl rfl (by rfl) (qP 32 _ _ rfl (w.heap.size+1) rfl #[.slice none 0 0,.int .i64 0,.slice none 0 0,.int .i64 0,.bool false] rfl 32 (by kernel_rfl) _ hHeld.2 rfl (by kernel_rfl)) ⟨hH3,?_⟩);simp only[Act.put];refine zD 10 (some 3) (.int .i64 KB) rfl rfl (λ_ _=>rfl) hH3 ?_;simp only[Act.put,zh,zf,zg];refine zD 11 (some 4) (.int .i64 KA) rfl rfl (λ_ _=>rfl) hH3 ?_;simp only[Act.put,zh,zf,zg];refine wpAnyH_done (by kernel_rfl) ?_ _
        go_wp2
        refine yD rfl rfl rfl rfl hH3.2 rfl ?_;refine⟨jd (zr ((HBr.out).trans (s5.below HBr.out.size (λq hq=>by have:=(H3.low hq).1;have:=HCB.out;omega)))) (by omega) _,?_⟩;rw[HKB.out,HKA.out];exact Q0.err HRE.out _
theorem Hj(x:List UInt8):(PT x).l.length≤5000:=by
 unfold PT;cases h:xh x with
 |ok n=>have:=Vc h;show n.l.length≤5000;omega
 |error e=>show zNd.l.length≤5000;decide
theorem FA{x:List UInt8}{s:Km}(h:vk (PT x)= .ok s):Jv s.parts∧(∀i,i<s.parts.length→(zx s.parts i).kind=1∨yZ s.parts (zx s.parts i))∧0<s.parts.length:=by
 unfold vk at h
 split at h
 ·rename_i hR
  obtain⟨c,hI,hw⟩:=zbb (QA hR (X0 x)) h;obtain⟨j,y,hj,hy,rfl⟩:=YZ hw;refine⟨hI.wf,hI.reg,?_⟩;have hi:=hI;unfold JB at hi;have:=(hi.expo y hy).1;show 0<c.parts.length;omega
 ·cases h
theorem JW{o:Oper}{a:Act}(x:Operand)(ho:o.op= .load 42 x)(g q:Nat)(hx:a.eval x= .pointer (some ⟨g,q,none⟩)){x0 x1 x2:Value}(w:World)(h0:w.cell? ⟨g,q,none⟩=some x0)(h1:w.cell? ⟨g,q+1,none⟩=some x1)(h2:w.cell? ⟨g,q+2,none⟩=some x2):(execOp a.eval o).run Tryz.prog w= .ok (.value (.agg #[x0,x1,x2])) w:=by
 unfold execOp;simp only[ho,hx];go_simp
theorem zcP(a b c:Int)(w:World):(Op.equalIn 10000 42 (.agg #[.int .i64 a,.int .i64 b,.int .i64 c]) (.agg #[.int .i64 a,.int .i64 b,.int .i64 c])).run Tryz.prog w= .ok true w:=by
 have u3:=Tryz.underlying3;rw[show(10000:Nat)=9999+1 from rfl,Op.equalIn];simp only[Sem.run_bind,run_underlying Tryz.underlying42,Result.andThen_ok];simp only[Std.Legacy.Range.forIn_eq_forIn_range',Std.Legacy.Range.size,Nat.sub_zero,Nat.add_sub_cancel,Nat.div_one,List.range'_succ,List.range'_zero,List.forIn_cons,List.forIn_nil];go_simp
theorem zbR(x:List UInt8)(p f c:Int)(w:World)(hx:x.length≤maxLen){ec:Nat}{ek:Int}(hC:vk (PT x)= .error (ec,ek)):Calls Tryz.prog 4 #[.string (bs x),.agg #[.int .i64 p,.int .i64 f,.int .i64 c]] w λe w'=>e= .returned (.bool true)∧Below w.heap.size w w':=by
 obtain⟨W0,hW0⟩:∃W0,W0=w.alloc (.cells #[.int .i64 p,.int .i64 f,.int .i64 c] 39):=⟨_,rfl⟩
 have hb0:Below w.heap.size w W0:=by rw[hW0];exact zl w _
 have hpa:=zbB x W0 hx;have hec:¬((ec:Nat):Int)=0:=by have :ec≠0:=Gu (X0 x) hC;omega
 have HCK:=ze (λW A C (h:jZ W (PT x) A C)=>by have:=kX (PT x) A C W h (X0 x) (Hj x);rw[hC]at this;exact this)
 obtain⟨n,hn⟩:∃n,n=PT x:=⟨_,rfl⟩
 rw[←hn]at hpa HCK;rw[hW0]at hpa;have HW0:=ze hW0;clear hn hC hW0;unfold qD at hpa HCK;go_enter Tryz.func4,Tryz.ntmps4
 go_wp2_with (first
  |((go_at_call 5)
    refine hpa.mono ?_;rintro e w1 ⟨A,C,cc,kk,rfl,hr1,hb1,-⟩;(have hck:=HCK.out _ A C (hr1.grow (zl w1 (.cells #[.string (bs n.op),.string (bs n.s),.int .i64 n.n,.int .i64 n.a,.slice A n.l.length C] 24)))))
  |((go_at_call 8)
    refine hck.mono ?_;(rintro e w2 ⟨hb2,rfl⟩))
  |((go_at_call 10)
    refine(Xt _).mono ?_;(rintro e w3 ⟨rfl,hb3⟩)))
 go_ret
 rw[←HW0.out]at hb1;have q0:=hb0.size;have q1:=hb1.size;have q2:=hb2.size;simp at q2;have h01:=hb0.trans (hb1.mono q0);exact⟨rfl,(((h01.alloc (by omega) _).trans (hb2.mono (by simp;omega))).alloc (by omega) _).trans (hb3.mono (by simp;omega))⟩
theorem VU(x:List UInt8)(p f c:Int)(hp:qo p)(hf:qo f)(hc:qo c)(w:World)(hx:x.length≤maxLen):Calls Tryz.prog 4 #[.string (bs x),.agg #[.int .i64 p,.int .i64 f,.int .i64 c]] w λe w'=>e= .returned (.bool true)∧Below w.heap.size w w':=by
 cases hC:vk (PT x)with
 |error er=>exact zbR x p f c w hx hC
 |ok s =>
  obtain⟨hwf,hpt,hn0⟩:=FA hC
  obtain⟨W0,hW0⟩:∃W0,W0=w.alloc (.cells #[.int .i64 p,.int .i64 f,.int .i64 c] 39):=⟨_,rfl⟩
  have hb0:Below w.heap.size w W0:=by rw[hW0];exact zl w _
  have H0:zm W0 w.heap.size 39 #[.int .i64 p,.int .i64 f,.int .i64 c]:=by rw[hW0];exact zm.new w _ _
  have hpa:=zbB x W0 hx;have HCK:=ze (λW A C (h:jZ W (PT x) A C)=>by have:=kX (PT x) A C W h (X0 x) (Hj x);rw[hC]at this;exact this)
  obtain⟨n,hn⟩:∃n,n=PT x:=⟨_,rfl⟩
  rw[←hn]at hpa HCK;rw[hW0]at hpa;have HW0:=ze hW0;have HB0:=ze hb0;have HH0:=ze H0;have HWF:=ze hwf;have HPT:=ze hpt;have HN0:=ze hn0;have HP:=ze hp;have HF:=ze hf;have HC2:=ze hc;clear hn hC hW0 hwf hpt hn0 H0 hb0 hp hf hc;unfold qD at hpa HCK;go_enter Tryz.func4,Tryz.ntmps4
  go_wp2_with (first
   |((go_at_call 5)
     refine hpa.mono ?_;rintro e w1 ⟨A,C,cc,kk,rfl,hr1,hb1',-⟩;have hck:=HCK.out _ A C (hr1.grow (zl w1 (.cells #[.string (bs n.op),.string (bs n.s),.int .i64 n.n,.int .i64 n.a,.slice A n.l.length C] 24)));(have hb1:Below W0.heap.size W0 w1:=by rw[HW0.out];exact hb1');(have hb1n:=hb1.trans ((zl w1 (.cells #[.string (bs n.op),.string (bs n.s),.int .i64 n.n,.int .i64 n.a,.slice A n.l.length C] 24)).mono hb1.size)))
   |((go_at_call 8)
     refine hck.mono ?_;rintro e w2 ⟨hb2,vd,vp,rfl,hsk⟩;obtain⟨Ad,Cd,evd⟩:=xR hsk.devs;obtain⟨g,off,Cp,evp,hcp1,hcp2,hgl,hgB,hPt⟩:=hsk.pts HN0.out;subst evd evp;have hb02:=hb1n.trans (hb2.mono hb1n.size);(obtain⟨W3,hW3⟩:∃W3,W3=w2.alloc (.cells #[.slice Ad s.devs.length Cd,.int .i64 (s.jour:Nat),.slice (some ⟨g,off,none⟩) s.parts.length Cp,.int .i64 (s.expo:Nat),.bool s.ro] 32):=⟨_,rfl⟩);(have hb3:Below w2.heap.size w2 W3:=by rw[hW3];exact zl w2 _);(have S3:zm W3 w2.heap.size 32 #[.slice Ad s.devs.length Cd,.int .i64 (s.jour:Nat),.slice (some ⟨g,off,none⟩) s.parts.length Cp,.int .i64 (s.expo:Nat),.bool s.ro]:=by rw[hW3];exact zm.new w2 _ _);have H3:=HH0.out.below (hb02.trans (hb3.mono hb02.size)) HH0.out.lt;have hrg:=YP (vB.up hPt hb3) ⟨hcp1,hcp2⟩ HWF.out (.slice Ad s.devs.length Cd) (.int .i64 (s.jour:Nat)) (.int .i64 (s.expo:Nat)) (.bool s.ro) p f c HP.out HF.out HC2.out;have HPU:=ze (λW (hW:Below W3.heap.size W3 W)=>VZ (vB.up (vB.up hPt hb3) hW) ⟨hcp1,hcp2⟩ HWF.out HPT.out (.slice Ad s.devs.length Cd) (.int .i64 (s.jour:Nat)) (.int .i64 (s.expo:Nat)) (.bool s.ro) p f c HP.out HF.out HC2.out);have HB3:=ze (hb02.trans (hb3.mono hb02.size));have a0:=H3.cell 0;have a1:=H3.cell 1;have a2:=H3.cell 2;have al:=H3.lt;have s0:=S3.cell 0;have s1:=S3.cell 1;have s2:=S3.cell 2;have s3:=S3.cell 3;have s4:=S3.cell 4;have sl:=S3.lt;simp only[qH,qG,qI]at a0 a1 a2 s0 s1 s2 s3 s4;have HS3:=ze S3;have HH3:=ze H3;have HW3:=ze hW3;(clear hPt hcp1 hcp2 hgl hgB hsk hb2 hb1 hb1n hb02 hb3 S3 H3 hW3 hr1 hb1' hck))
   |((with_reducible refine zi 29 rfl ?_)
     (rw[←HW3.out]))
   |((go_at_call 11)
     refine hrg.mono ?_;rintro e w4 ⟨v1,rfl,hr4,hb4,hl4⟩;obtain⟨A1,C1,ev1,hv1,hv2,hrn1⟩:=hr4.rng;subst ev1;have hkg:=HPU.out w4 hb4;have H4:=HH3.out.below hb4 HH3.out.lt;have S4:=HS3.out.below hb4 HS3.out.lt;have a0:=H4.cell 0;have a1:=H4.cell 1;have a2:=H4.cell 2;have al:=H4.lt;have s0:=S4.cell 0;have s1:=S4.cell 1;have s2:=S4.cell 2;have s3:=S4.cell 3;have s4:=S4.cell 4;have sl:=S4.lt;simp only[qH,qG,qI]at a0 a1 a2 s0 s1 s2 s3 s4;have HR4:=ze hrn1;have HB4:=ze hb4;have HL4:=ze hl4;have HV1:=ze (And.intro hv1 hv2);(clear hr4 hb4 hl4 hv1 hv2 hrn1 H4 S4))
   |((go_at_call 12)
     refine hkg.mono ?_;rintro e w5 ⟨v2,rfl,hr5,hb5,hl5⟩;obtain⟨A2,C2,ev2,hu1,hu2,hrn2⟩:=Kw.rng hr5;(subst ev2)))
  generalize xt s.parts p f c=R at *;obtain⟨hv1,hv2⟩:=HV1.out;have hl4:=HL4.out;have hrn1:=uG.below HR4.out hb5 (Nat.le_refl _);have HB5:=ze (HB0.out.trans ((HB3.out.trans ((HB4.out.trans (hb5.mono HB4.out.size)).mono HB3.out.size)).mono HB0.out.size));clear hr5 hl5 HL4 HV1 hb5 HR4 hkg hrg a0 a1 a2 al s0 s1 s2 s3 s4 sl;generalize R.length=NR at *;unfold maxLen at hv2 hu2
  go_loopw [13] (λz wr=>∃i:Nat,z= .int .i64 (i:Nat)∧i≤NR∧Below w5.heap.size w5 wr) (λz _=>NR-(intOf z).toNat)
  case atStart=>exact⟨0,rfl,Nat.zero_le _,Below.refl _ _⟩
  case round =>
   obtain⟨i,rfl,hi,hb5r⟩:=hrel;by_cases hlt:i<NR
   ·have hint:(i:Int)<(NR:Int):=by omega
    obtain⟨b1,o1,e1,hb1l,hc1⟩:=hrn1.resolve_left (by omega);obtain⟨b2,o2,e2,hb2l,hc2⟩:=hrn2.resolve_left (by omega);subst e1 e2;obtain⟨k0,k1,k2⟩:=hc1 i hlt;obtain⟨l0,l1,l2⟩:=hc2 i hlt;generalize (fG R i).d=d0 at *;generalize (fG R i).f=f0 at *;generalize (fG R i).c=c0 at *;clear hc1 hc2
    go_wp2
    refine wp_region_held_drew (S:=λwz=>Below w5.heap.size w5 wz) (by kernel_rfl) (hb5r.drew) (λhHeld=>?_);refine zw 0 (some 56) (.slice (some ⟨b1,o1,none⟩) NR C1) hHeld ?_;simp only[Act.put,zh,zf,zg];refine zw 1 (some 57) (.int .i64 (i:Nat)) hHeld ?_;simp only[Act.put,zh,zf,zg];refine zD 2 (some 58) (.pointer (some ⟨b1,o1+i*3,none⟩)) rfl rfl (λwz _=>Y3 _ _ rfl b1 o1 i NR C1 rfl rfl hlt wz) hHeld ?_;simp only[Act.put,zh,zf,zg];refine zD 3 (some 59) (.agg #[.int .i64 d0,.int .i64 f0,.int .i64 c0]) rfl rfl (λwz hz=>JW _ rfl b1 (o1+i*3) rfl wz (za hz k0) (za hz k1) (za hz k2)) hHeld ?_;simp only[Act.put,zh,zf,zg];refine zw 4 (some 60) (.slice (some ⟨b2,o2,none⟩) NR C2) hHeld ?_;simp only[Act.put,zh,zf,zg];refine zw 5 (some 61) (.int .i64 (i:Nat)) hHeld ?_;simp only[Act.put,zh,zf,zg];refine zD 6 (some 62) (.pointer (some ⟨b2,o2+i*3,none⟩)) rfl rfl (λwz _=>Y3 _ _ rfl b2 o2 i NR C2 rfl rfl hlt wz) hHeld ?_;simp only[Act.put,zh,zf,zg];refine zD 7 (some 63) (.agg #[.int .i64 d0,.int .i64 f0,.int .i64 c0]) rfl rfl (λwz hz=>JW _ rfl b2 (o2+i*3) rfl wz (za hz l0) (za hz l1) (za hz l2)) hHeld ?_;simp only[Act.put,zh,zf,zg];refine zD 8 (some 64) (.bool false) rfl rfl (λwz hz=>by unfold execOp;go_simp;rw[zcP];rfl) hHeld ?_;simp only[Act.put,zh,zf,zg];refine wpAnyH_done (by kernel_rfl) ?_ _;have hb5d:=hb5r.drew;clear hHeld;generalize wr.drew=wd at *
    go_wp2
    go_roundw
    case rel=>exact⟨i+1,by go_num,by omega,hb5d⟩
    case measure=>simp[intOf];omega
   ·obtain rfl:i=NR:=by omega
    go_wp2_with (first
     |((go_at_call 10)
       refine(Xt _).mono ?_;(rintro e w7 ⟨rfl,hb7⟩)))
    go_ret
    have q:=HB5.out.trans (hb5r.mono HB5.out.size);exact⟨rfl,q.trans (hb7.mono q.size)⟩
end
section
open Go.ChangeShapes Go.WideShapes Go.ChangeAt Go.RowKit
theorem Fr{n:Int}(h:(Lit.int .i64 n).wf=true):qo n:=by
 simp[Lit.wf,IntKind.min,IntKind.max,IntKind.signed,IntKind.bits]at h;unfold qo;omega
variable {H:Type} {enc:TypeId×Value→H} {W:World} {fuel:Nat}
theorem VL{v:Value}{y:DataW H×List MemPlace}(hf:DataW.trod enc Tryz.prog W 0 (λ_=>true) true fuel 3 [v]=some y):∃n,v= .int .i64 n∧qo n:=by
 obtain⟨s,hs1,_,hs2⟩:=DataW.trod_int Tryz.underlying3 hf;simp only[List.cons.injEq,and_true]at hs1;exact⟨s,hs1,Fr hs2⟩
end
section
open Go.ChangeShapes Go.WideShapes Go.ChangeAt Go.RowKit
variable {H:Type} {enc:TypeId×Value→H} {W:World} {fuel:Nat}
theorem uD{cs:Array Value}{y:DataW H×List MemPlace}(hs:cs.size=3)(hf:DataW.trod enc Tryz.prog W 0 (λ_=>true) true fuel 39 cs.toList=some y):
 ∃(p f c:Int),cs= #[.int .i64 p,.int .i64 f,.int .i64 c]∧qo p∧qo f∧qo c:=by
 obtain⟨xs,n,_,rfl,hl,hlen,hff⟩:=DataW.trod_struct Tryz.underlying39 hf;have hlen':xs.length=3:=by simpa using hlen
 obtain⟨y0,y1,y2,rfl⟩:∃y0 y1 y2,xs= [y0,y1,y2]:=by
  match xs,hlen' with
  | [y0,y1,y2],_=>exact⟨y0,y1,y2,rfl⟩
 have hL:cs.toList.length=3:=by simpa using hs
 obtain⟨v0,v1,v2,e⟩:∃v0 v1 v2,cs.toList= [v0,v1,v2]:=by
  generalize cs.toList=l at hL
  match l,hL with
  | [v0,v1,v2],_=>exact⟨v0,v1,v2,rfl⟩
 have h0:=hff 0 _ rfl;have h1:=hff 1 _ rfl;have h2:=hff 2 _ rfl;have c1:Tryz.prog.cellsOf 3=1:=by kernel_rfl
 have e0:DataW.trod enc Tryz.prog W 0 (λ_=>true) true n 3 ((cs.toList.drop 0).take (Tryz.prog.cellsOf 3))=some y0:=h0;have e1:DataW.trod enc Tryz.prog W 0 (λ_=>true) true n 3 ((cs.toList.drop 1).take (Tryz.prog.cellsOf 3))=some y1:=h1;have e2:DataW.trod enc Tryz.prog W 0 (λ_=>true) true n 3 ((cs.toList.drop 2).take (Tryz.prog.cellsOf 3))=some y2:=h2;rw[c1,e]at e0 e1 e2;obtain⟨p,ep,hp⟩:=VL (v:=v0) e0;obtain⟨f,ef,hf'⟩:=VL (v:=v1) e1;obtain⟨c,ec,hc⟩:=VL (v:=v2) e2;refine⟨p,f,c,Array.ext' ?_,hp,hf',hc⟩;rw[e,ep,ef,ec]
end
end Go.Proofs.YteaddcdpgcgggaaGreatDoor
