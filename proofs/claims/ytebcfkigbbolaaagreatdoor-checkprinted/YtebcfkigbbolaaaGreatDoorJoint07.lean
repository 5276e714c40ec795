import Derived.Test.YtebcfkigbbolaaaGreatDoorJoint06
namespace Go.Proofs.YtebcfkigbbolaaaGreatDoor
set_option linter.unusedVariables false
set_option maxRecDepth 100000
set_option maxHeartbeats 40000000
section
open Go.ChangeShapes Go.WideShapes Go.ChangeAt Go.RowKit
theorem Ur{w:World}{rb:Nat}{A:Option Addr}{C:Nat}{ts:zo}{i en:Nat}{k:Int}(h:zF w rb A C ts i en 0 k)(hG:yB ts)(d N:Nat)(hN:N≤12)(hi:i<ts.length)(hk:ts[i].1.kind=0)(hs:ts[i].1.s=qZ)
 (hx:∀(w:World) (i:Nat) (bad k:Int),zF w rb A C ts i en bad k→Calls Tryz.prog 48 #[.pointer (some ⟨rb,0,none⟩),.int .i64 ((N:Int)+1)] w (qj w rb A C ts i en bad (zC d))):
 Calls Tryz.prog 48 #[.pointer (some ⟨rb,0,none⟩),.int .i64 (N:Nat)] w (qj w rb A C ts i en 0 (zC (d+1))):=by
 have hpx:=Vh (d:=d) (en:=en) hi hk hs (by decide) (by decide);have hR:=h;have hlt:=h.has.lt;have hf:=h.few
 have hop:∀W k,zF W rb A C ts i en 0 k→Calls Tryz.prog 77 #[.pointer (some ⟨rb,0,none⟩)] W λe w'=>e= .returned (.string ⟨#[99,111,110,99,97,116]⟩)∧Below W.heap.size W w':=by
  intro W k h;refine(Qb h).mono ?_;rintro e w' ⟨rfl,hb⟩;refine⟨?_,hb⟩
  have :vj ZC (vr 0 ts i)=qZ:=by
   have hb:∀s,vr 0 ts i s=(s==qZ):=by
    intro s;unfold vr;rw[qu hi];unfold yA;rw[hk,hs];simp only[decide_true,Bool.true_and,beq_self_eq_true,Bool.true_or];rw[Bool.eq_iff_iff];simp only[beq_iff_eq];exact eq_comm
   rw[show vr 0 ts i=λs=>s==qZ from funext hb];decide
  rw[this];rfl
 have hpl:∀W k,zF W rb A C ts i en 0 k→Calls Tryz.prog 42 #[.pointer (some ⟨rb,0,none⟩)] W λe w'=>e= .returned (.int .i64 (ts[i].2:Nat))∧Below W.heap.size W w':=by
  intro W k h;refine(jv h).mono ?_;rintro e w' ⟨rfl,q,rfl⟩;rw[jL hi];exact⟨rfl,jG (Below.refl _ _) _⟩
 have h0:=h.kp (zd w (.cells #[.string ⟨#[]⟩,.string ⟨#[]⟩,.int .i64 0,.int .i64 0,.slice none 0 0] 24));have hN0:=ze.new w 24 #[.string ⟨#[]⟩,.string ⟨#[]⟩,.int .i64 0,.int .i64 0,.slice none 0 0];rw[show(zC (d+1))=zC (d+1)from rfl];have fin:∀(e:Ending) (w':World),qj w rb A C ts i en 0 (λ_ _=>zC (d+1) en (ts.drop i)) e w'→qj w rb A C ts i en 0 (zC (d+1)) e w':=λe w' h=>h
 rw[hpx]at fin;generalize ts[i].2=at_ at hpl fin;clear hpx hs hk;have hi1:i+1≤ts.length:=by omega
 have hi5:(i:Int)≤500:=by omega
 go_enter Tryz.func48,Tryz.ntmps48
 go_wp2_with (first
  |((go_at_call 77)
    refine(hop _ _ h0).mono ?_;rintro e w1 ⟨rfl,hb1⟩;have h1:=h0.kp hb1;have c1:=h1.has.cell 3;have l1:=h1.has.lt;(simp only[jg,jd,jf]at c1))
  |((go_at_call 42)
    refine(hpl _ _ h1).mono ?_;rintro e w2 ⟨rfl,hb2⟩;have h2:=h1.kp hb2;have c2:=h2.has.cell 1;have d2:=h2.has.free 1;have l2:=h2.has.lt;simp only[jg,jd,jf]at c2;have N2:=(hN0.below hb1 hN0.lt).below hb2 (hN0.below hb1 hN0.lt).lt;have lp2:=N2.lt;have E3:yv w rb A C ts i en w2.heap.size ⟨#[99,111,110,99,97,116]⟩ (at_:Nat) ((w2.setCell ⟨rb,1,none⟩ (.int .i64 ((i:Int)+1))).alloc (.cells #[.string ⟨#[99,111,110,99,97,116]⟩,.string ⟨#[]⟩,.int .i64 0,.int .i64 (at_:Nat),.slice none 0 0] 24)) (i+1) 0 [] (.slice none 0 0):=xt hR hb1 hb2 hi1 hlt;have pq:=E3.pq;(obtain⟨k3,h3⟩:=E3.at hR))
  |((go_at_call 47)
    refine qk ((w2.setCell ⟨rb,1,none⟩ (.int .i64 ((i:Int)+1))).alloc (.cells #[.string ⟨#[99,111,110,99,97,116]⟩,.string ⟨#[]⟩,.int .i64 0,.int .i64 (at_:Nat),.slice none 0 0] 24)) ?_;refine(qC h3 [40]).mono ?_;rintro e w4 ⟨rfl,i4,b4,s4,t4,T4⟩;rw[jz hG (by decide)]at T4;have E4:=E3.rst s4;obtain⟨k4,h4⟩:=qX.at h3 s4;have z4:=s4.2.2.1.size;have q4:=E4.hq.cell 4;have r4:=E4.hq.lt;(have f4:=E4.hq.free 4))
  |((go_at_call 48)
    refine qk (w4) ?_;refine(hx _ _ _ _ h4).mono ?_;rintro e w5 ⟨i5,b5,x5,A5,C5,rfl,N5,s5,T5,l5⟩;have E5:=E4.rst s5;obtain⟨k5,h5⟩:=qX.at h4 s5;have z5:=s5.2.2.1.size;have q5:=E5.hq.cell 4;have r5:=E5.hq.lt;have f5:=E5.hq.free 4;simp only[zR];have E5a:=(E5.alloc (.cells #[.string (bs x5.op),.string (bs x5.s),.int .i64 x5.n,.int .i64 x5.a,.slice A5 x5.l.length C5] 24)).alloc (.cells #[.string (bs x5.op),.string (bs x5.s),.int .i64 x5.n,.int .i64 x5.a,.slice A5 x5.l.length C5] 24);(have N5a:=(E4.row.apart N5 (by omega)).grow (((Below.refl _ w5).alloc (Nat.le_refl _) (.cells #[.string (bs x5.op),.string (bs x5.s),.int .i64 x5.n,.int .i64 x5.a,.slice A5 x5.l.length C5] 24)).alloc (by simp) (.cells #[.string (bs x5.op),.string (bs x5.s),.int .i64 x5.n,.int .i64 x5.a,.slice A5 x5.l.length C5] 24))))
  |((refine zf 58 rfl ?_)
    refine zG rfl _ _ rfl (w2.heap.size+1) [] _ rfl E5a.row (by simp;omega) (by decide) [x5] [.slice A5 x5.l.length C5] (by simp) (by simp) rfl (Q7 _ _ _) (GX N5a) (w5.heap.size+1) rfl (ze.new_at (by simp)) 1 rfl ?_;intro A6 C6 w6 R6 B6;have E6:=E5a.put R6 B6;have u6:=(E5a.hq.below B6 (by omega)).cell 4;have v6:=(E5a.hq.below B6 (by omega)).free 4;have y6:=(E5a.hq.below B6 (by omega)).lt;(obtain⟨k6,h6⟩:=E6.at hR))
  |((go_at_call 43)
    refine qk (w6.setCell ⟨w2.heap.size,4,none⟩ (.slice A6 1 C6)) ?_;refine(j7 h6 [44]).mono ?_;rintro e w7 ⟨rfl,q7,rfl⟩;(have E7:=E6.drewN q7))
  )
 go_loopw [14] (λz wr=>∃(ir:Nat) (br:Int) (m:List Nd) (Ar:Option Addr) (Cr:Nat),z= .bool (vr br ts ir [44])∧yv w rb A C ts i en w2.heap.size ⟨#[99,111,110,99,97,116]⟩ (at_:Nat) wr ir br (x5::m) (.slice Ar (m.length+1) Cr)∧Hid (ZP (zC d) en ts b5 i5 m ir br)∧m.length≤ir) (λ_ wz=>501-K7 rb wz)
 case atStart=>exact⟨i5,b5,[],A6,C6,rfl,E7,ZP.start _ _ _ _ _,Nat.zero_le _⟩
 case round =>
  obtain⟨ir,br,m,Ar,Cr,rfl,E8,HM,hml⟩:=hrel;obtain⟨k8,h8⟩:=E8.at hR;have l8:=h8.has.lt;have r8:=E8.hq.lt;have hw5:i5≤ts.length:=s5.2.1;cases hc:vr br ts ir [44]
  ·have hn:=Z1 hc
   have T9:=HM.out.stop (by
    rcases hn with e|e
    ·exact .inl e
    ·refine .inr ?_
     by_cases hj:ir<ts.length
     ·rw[qu hj]at e ⊢
      show qM [44] _=false;unfold qM;unfold yA at e;cases h3:ts[ir].1.kind==3 with
      |false=>rfl
      |true=>rw[h3]at e;simpa using e
     ·exact v8 hj) 501 (by omega)
   have HT9:Hid (zX b5 (jY (zC d) 501 en (ts.drop i5)) ts m ir br):=T9;clear T9 hn HM
   go_wp2_with (first
    |((go_at_call 47)
      refine qk (wr) ?_;refine(qC h8 [41]).mono ?_;rintro e w10 ⟨rfl,i10,b10,s10,t10,T10⟩;rw[jz hG (by decide)]at T10;have E10:=E8.rst s10;obtain⟨k10,h10⟩:=qX.at h8 s10;have z10:=s10.2.2.1.size;have q10:=E10.hq.cell 4;have r10:=E10.hq.lt;have f10:=E10.hq.free 4;have p10:=E10.hp.lt;have ca0:=E10.hp.cell 0;have ca1:=E10.hp.cell 1;have ca2:=E10.hp.cell 2;have ca3:=E10.hp.cell 3;have ca4:=E10.hp.cell 4;have fa0:=E10.hp.free 0;have fa1:=E10.hp.free 1;have fa2:=E10.hp.free 2;have fa3:=E10.hp.free 3;have fa4:=E10.hp.free 4;have cb0:=E10.hq.cell 0;have cb1:=E10.hq.cell 1;have cb2:=E10.hq.cell 2;have cb3:=E10.hq.cell 3;(have cb4:=E10.hq.cell 4))
    )
   refine zY rfl rfl (E10.hp.set5 _ _ _ _ _) rfl (fin _ _ ?_);refine⟨i10,b10,.mk qZ [] 0 (at_:Nat) (x5::m),Ar,Cr,rfl,?_,qX.set5 E10.st (Nat.le_refl _) hlt _ _ _ _ _,(Yg (l:= [x5]) rfl T4 (uB T5) HT9.out T10).map (λl=>Nd.mk qZ [] 0 (at_:Nat) l),by show m.length+1≤501;have:=h8.le;omega⟩;exact(E10.row.done.mono λg hg=>(by omega:w.heap.size≤g∧g≠w.heap.size)).set5 (λg hg=>hg.2) _ _ _ _ _ |>.mono λg hg=>hg.1
  ·obtain⟨rfl,hj,hp⟩:=Zb hc
   have E9:=E8.step hj;obtain⟨k9,h9⟩:=E9.at hR;have c8:=h8.has.cell 1;have d8:=h8.has.free 1;simp only[jg,jd,jf]at c8
   have hcm:QR ts[ir].1=true:=by
    show qM [44] _=true;have e:=jz hG (c:=44) (by decide) en ir;rw[List.drop_eq_getElem_cons hj]at e;simp only[zn]at e;rw[if_pos hp]at e;cases h4:qM [44] ts[ir].1 with
    |true=>rfl
    |false=>rw[h4]at e;cases e
   have HC:Hid (QR ts[ir].1=true):=hcm;have hf5:=hR.few;have hir:(ir:Int)≤500:=by omega
   have hml2:m.length≤500:=by omega
   have hE8:=E8.pos;have HE8:Hid (K7 rb wr=ir):=hE8;clear hcm hp hE8
   obtain⟨M,hM⟩:∃M,M=m.length+1:=⟨_,rfl⟩
   have HMM:Hid (M=m.length+1):=hM;rw[←hM]at E8 E9;clear hM
   go_wp2_with (first
    |((go_at_call 48)
      refine qk (wr.setCell ⟨rb,1,none⟩ (.int .i64 ((ir:Int)+1))) ?_;refine(hx _ _ _ _ h9).mono ?_;rintro e w10 ⟨i10,b10,x10,A10,C10,rfl,N10,s10,T10,l10⟩;have E10:=E9.rst s10;obtain⟨k10,h10⟩:=qX.at h9 s10;have z10:=s10.2.2.1.size;have q10:=E10.hq.cell 4;have r10:=E10.hq.lt;have f10:=E10.hq.free 4;simp only[zR];have E10a:=(E10.alloc (.cells #[.string (bs x10.op),.string (bs x10.s),.int .i64 x10.n,.int .i64 x10.a,.slice A10 x10.l.length C10] 24)).alloc (.cells #[.string (bs x10.op),.string (bs x10.s),.int .i64 x10.n,.int .i64 x10.a,.slice A10 x10.l.length C10] 24);(have N10a:=(E9.row.apart N10 (by simp;omega)).grow (((Below.refl _ w10).alloc (Nat.le_refl _) (.cells #[.string (bs x10.op),.string (bs x10.s),.int .i64 x10.n,.int .i64 x10.a,.slice A10 x10.l.length C10] 24)).alloc (by simp) (.cells #[.string (bs x10.op),.string (bs x10.s),.int .i64 x10.n,.int .i64 x10.a,.slice A10 x10.l.length C10] 24))))
    |((refine zf 79 rfl ?_)
      refine zG rfl _ _ rfl (w2.heap.size+1) (x5::m) _ rfl E10a.row (by simp;omega) (by simp;omega) [x10] [.slice A10 x10.l.length C10] (by simp) (by simp) rfl (Q7 _ _ _) (GX N10a) (w10.heap.size+1) rfl (ze.new_at (by simp)) (M+1) (by rw[HMM.out];simp) ?_;intro A11 C11 w11 R11 B11;have E11:=E10a.put R11 B11;have u11:=(E10a.hq.below B11 (by omega)).cell 4;have v11:=(E10a.hq.below B11 (by omega)).free 4;have y11:=(E10a.hq.below B11 (by omega)).lt;(obtain⟨k11,h11⟩:=E11.at hR))
    |((go_at_call 43)
      refine(j7 h11 [44]).mono ?_;(rintro e w12 ⟨rfl,q12,rfl⟩)))
   go_roundw
   case rel =>
    refine⟨i10,b10,m++ [x10],A11,C11,rfl,?_,HM.out.next hj HC.out T10 s10.1,?_⟩
    ·have e:M+1=(m++ [x10]).length+1:=by rw[HMM.out];simp
     rw[←e];exact E11.drewN q12
    ·have:=s10.1
     simp;omega
   case measure =>
    have e1:=(E11.drewN q12).pos;have e2:=HE8.out;have:=s10.1;rw[e1,e2];omega
theorem Ue{w:World}{rb:Nat}{A:Option Addr}{C:Nat}{ts:zo}{i en:Nat}{k:Int}(h:zF w rb A C ts i en 0 k)(hG:yB ts)(d N:Nat)(hN:N≤12)(hi:i<ts.length)(hk:ts[i].1.kind=0)(hs:ts[i].1.s=jq)
 (hx:∀(w:World) (i:Nat) (bad k:Int),zF w rb A C ts i en bad k→Calls Tryz.prog 48 #[.pointer (some ⟨rb,0,none⟩),.int .i64 ((N:Int)+1)] w (qj w rb A C ts i en bad (zC d))):
 Calls Tryz.prog 48 #[.pointer (some ⟨rb,0,none⟩),.int .i64 (N:Nat)] w (qj w rb A C ts i en 0 (zC (d+1))):=by
 have hpx:=Vh (d:=d) (en:=en) hi hk hs (by decide) (by decide);have hR:=h;have hlt:=h.has.lt;have hf:=h.few
 have hop:∀W k,zF W rb A C ts i en 0 k→Calls Tryz.prog 77 #[.pointer (some ⟨rb,0,none⟩)] W λe w'=>e= .returned (.string ⟨#[109,105,114,114,111,114]⟩)∧Below W.heap.size W w':=by
  intro W k h;refine(Qb h).mono ?_;rintro e w' ⟨rfl,hb⟩;refine⟨?_,hb⟩
  have :vj ZC (vr 0 ts i)=jq:=by
   have hb:∀s,vr 0 ts i s=(s==jq):=by
    intro s;unfold vr;rw[qu hi];unfold yA;rw[hk,hs];simp only[decide_true,Bool.true_and,beq_self_eq_true,Bool.true_or];rw[Bool.eq_iff_iff];simp only[beq_iff_eq];exact eq_comm
   rw[show vr 0 ts i=λs=>s==jq from funext hb];decide
  rw[this];rfl
 have hpl:∀W k,zF W rb A C ts i en 0 k→Calls Tryz.prog 42 #[.pointer (some ⟨rb,0,none⟩)] W λe w'=>e= .returned (.int .i64 (ts[i].2:Nat))∧Below W.heap.size W w':=by
  intro W k h;refine(jv h).mono ?_;rintro e w' ⟨rfl,q,rfl⟩;rw[jL hi];exact⟨rfl,jG (Below.refl _ _) _⟩
 have h0:=h.kp (zd w (.cells #[.string ⟨#[]⟩,.string ⟨#[]⟩,.int .i64 0,.int .i64 0,.slice none 0 0] 24));have hN0:=ze.new w 24 #[.string ⟨#[]⟩,.string ⟨#[]⟩,.int .i64 0,.int .i64 0,.slice none 0 0];rw[show(zC (d+1))=zC (d+1)from rfl];have fin:∀(e:Ending) (w':World),qj w rb A C ts i en 0 (λ_ _=>zC (d+1) en (ts.drop i)) e w'→qj w rb A C ts i en 0 (zC (d+1)) e w':=λe w' h=>h
 rw[hpx]at fin;generalize ts[i].2=at_ at hpl fin;clear hpx hs hk;have hi1:i+1≤ts.length:=by omega
 have hi5:(i:Int)≤500:=by omega
 go_enter Tryz.func48,Tryz.ntmps48
 go_wp2_with (first
  |((go_at_call 77)
    refine(hop _ _ h0).mono ?_;rintro e w1 ⟨rfl,hb1⟩;have h1:=h0.kp hb1;have c1:=h1.has.cell 3;have l1:=h1.has.lt;(simp only[jg,jd,jf]at c1))
  |((go_at_call 42)
    refine(hpl _ _ h1).mono ?_;rintro e w2 ⟨rfl,hb2⟩;have h2:=h1.kp hb2;have c2:=h2.has.cell 1;have d2:=h2.has.free 1;have l2:=h2.has.lt;simp only[jg,jd,jf]at c2;have N2:=(hN0.below hb1 hN0.lt).below hb2 (hN0.below hb1 hN0.lt).lt;have lp2:=N2.lt;have E3:yv w rb A C ts i en w2.heap.size ⟨#[109,105,114,114,111,114]⟩ (at_:Nat) ((w2.setCell ⟨rb,1,none⟩ (.int .i64 ((i:Int)+1))).alloc (.cells #[.string ⟨#[109,105,114,114,111,114]⟩,.string ⟨#[]⟩,.int .i64 0,.int .i64 (at_:Nat),.slice none 0 0] 24)) (i+1) 0 [] (.slice none 0 0):=xt hR hb1 hb2 hi1 hlt;have pq:=E3.pq;(obtain⟨k3,h3⟩:=E3.at hR))
  |((go_at_call 47)
    refine qk ((w2.setCell ⟨rb,1,none⟩ (.int .i64 ((i:Int)+1))).alloc (.cells #[.string ⟨#[109,105,114,114,111,114]⟩,.string ⟨#[]⟩,.int .i64 0,.int .i64 (at_:Nat),.slice none 0 0] 24)) ?_;refine(qC h3 [40]).mono ?_;rintro e w4 ⟨rfl,i4,b4,s4,t4,T4⟩;rw[jz hG (by decide)]at T4;have E4:=E3.rst s4;obtain⟨k4,h4⟩:=qX.at h3 s4;have z4:=s4.2.2.1.size;have q4:=E4.hq.cell 4;have r4:=E4.hq.lt;(have f4:=E4.hq.free 4))
  |((go_at_call 48)
    refine qk (w4) ?_;refine(hx _ _ _ _ h4).mono ?_;rintro e w5 ⟨i5,b5,x5,A5,C5,rfl,N5,s5,T5,l5⟩;have E5:=E4.rst s5;obtain⟨k5,h5⟩:=qX.at h4 s5;have z5:=s5.2.2.1.size;have q5:=E5.hq.cell 4;have r5:=E5.hq.lt;have f5:=E5.hq.free 4;simp only[zR];have E5a:=(E5.alloc (.cells #[.string (bs x5.op),.string (bs x5.s),.int .i64 x5.n,.int .i64 x5.a,.slice A5 x5.l.length C5] 24)).alloc (.cells #[.string (bs x5.op),.string (bs x5.s),.int .i64 x5.n,.int .i64 x5.a,.slice A5 x5.l.length C5] 24);(have N5a:=(E4.row.apart N5 (by omega)).grow (((Below.refl _ w5).alloc (Nat.le_refl _) (.cells #[.string (bs x5.op),.string (bs x5.s),.int .i64 x5.n,.int .i64 x5.a,.slice A5 x5.l.length C5] 24)).alloc (by simp) (.cells #[.string (bs x5.op),.string (bs x5.s),.int .i64 x5.n,.int .i64 x5.a,.slice A5 x5.l.length C5] 24))))
  |((refine zf 58 rfl ?_)
    refine zG rfl _ _ rfl (w2.heap.size+1) [] _ rfl E5a.row (by simp;omega) (by decide) [x5] [.slice A5 x5.l.length C5] (by simp) (by simp) rfl (Q7 _ _ _) (GX N5a) (w5.heap.size+1) rfl (ze.new_at (by simp)) 1 rfl ?_;intro A6 C6 w6 R6 B6;have E6:=E5a.put R6 B6;have u6:=(E5a.hq.below B6 (by omega)).cell 4;have v6:=(E5a.hq.below B6 (by omega)).free 4;have y6:=(E5a.hq.below B6 (by omega)).lt;(obtain⟨k6,h6⟩:=E6.at hR))
  |((go_at_call 43)
    refine qk (w6.setCell ⟨w2.heap.size,4,none⟩ (.slice A6 1 C6)) ?_;refine(j7 h6 [44]).mono ?_;rintro e w7 ⟨rfl,q7,rfl⟩;(have E7:=E6.drewN q7))
  )
 go_loopw [14] (λz wr=>∃(ir:Nat) (br:Int) (m:List Nd) (Ar:Option Addr) (Cr:Nat),z= .bool (vr br ts ir [44])∧yv w rb A C ts i en w2.heap.size ⟨#[109,105,114,114,111,114]⟩ (at_:Nat) wr ir br (x5::m) (.slice Ar (m.length+1) Cr)∧Hid (ZP (zC d) en ts b5 i5 m ir br)∧m.length≤ir) (λ_ wz=>501-K7 rb wz)
 case atStart=>exact⟨i5,b5,[],A6,C6,rfl,E7,ZP.start _ _ _ _ _,Nat.zero_le _⟩
 case round =>
  obtain⟨ir,br,m,Ar,Cr,rfl,E8,HM,hml⟩:=hrel;obtain⟨k8,h8⟩:=E8.at hR;have l8:=h8.has.lt;have r8:=E8.hq.lt;have hw5:i5≤ts.length:=s5.2.1;cases hc:vr br ts ir [44]
  ·have hn:=Z1 hc
   have T9:=HM.out.stop (by
    rcases hn with e|e
    ·exact .inl e
    ·refine .inr ?_
     by_cases hj:ir<ts.length
     ·rw[qu hj]at e ⊢
      show qM [44] _=false;unfold qM;unfold yA at e;cases h3:ts[ir].1.kind==3 with
      |false=>rfl
      |true=>rw[h3]at e;simpa using e
     ·exact v8 hj) 501 (by omega)
   have HT9:Hid (zX b5 (jY (zC d) 501 en (ts.drop i5)) ts m ir br):=T9;clear T9 hn HM
   go_wp2_with (first
    |((go_at_call 47)
      refine qk (wr) ?_;refine(qC h8 [41]).mono ?_;rintro e w10 ⟨rfl,i10,b10,s10,t10,T10⟩;rw[jz hG (by decide)]at T10;have E10:=E8.rst s10;obtain⟨k10,h10⟩:=qX.at h8 s10;have z10:=s10.2.2.1.size;have q10:=E10.hq.cell 4;have r10:=E10.hq.lt;have f10:=E10.hq.free 4;have p10:=E10.hp.lt;have ca0:=E10.hp.cell 0;have ca1:=E10.hp.cell 1;have ca2:=E10.hp.cell 2;have ca3:=E10.hp.cell 3;have ca4:=E10.hp.cell 4;have fa0:=E10.hp.free 0;have fa1:=E10.hp.free 1;have fa2:=E10.hp.free 2;have fa3:=E10.hp.free 3;have fa4:=E10.hp.free 4;have cb0:=E10.hq.cell 0;have cb1:=E10.hq.cell 1;have cb2:=E10.hq.cell 2;have cb3:=E10.hq.cell 3;(have cb4:=E10.hq.cell 4))
    )
   refine zY rfl rfl (E10.hp.set5 _ _ _ _ _) rfl (fin _ _ ?_);refine⟨i10,b10,.mk jq [] 0 (at_:Nat) (x5::m),Ar,Cr,rfl,?_,qX.set5 E10.st (Nat.le_refl _) hlt _ _ _ _ _,(Yg (l:= [x5]) rfl T4 (uB T5) HT9.out T10).map (λl=>Nd.mk jq [] 0 (at_:Nat) l),by show m.length+1≤501;have:=h8.le;omega⟩;exact(E10.row.done.mono λg hg=>(by omega:w.heap.size≤g∧g≠w.heap.size)).set5 (λg hg=>hg.2) _ _ _ _ _ |>.mono λg hg=>hg.1
  ·obtain⟨rfl,hj,hp⟩:=Zb hc
   have E9:=E8.step hj;obtain⟨k9,h9⟩:=E9.at hR;have c8:=h8.has.cell 1;have d8:=h8.has.free 1;simp only[jg,jd,jf]at c8
   have hcm:QR ts[ir].1=true:=by
    show qM [44] _=true;have e:=jz hG (c:=44) (by decide) en ir;rw[List.drop_eq_getElem_cons hj]at e;simp only[zn]at e;rw[if_pos hp]at e;cases h4:qM [44] ts[ir].1 with
    |true=>rfl
    |false=>rw[h4]at e;cases e
   have HC:Hid (QR ts[ir].1=true):=hcm;have hf5:=hR.few;have hir:(ir:Int)≤500:=by omega
   have hml2:m.length≤500:=by omega
   have hE8:=E8.pos;have HE8:Hid (K7 rb wr=ir):=hE8;clear hcm hp hE8
   obtain⟨M,hM⟩:∃M,M=m.length+1:=⟨_,rfl⟩
   have HMM:Hid (M=m.length+1):=hM;rw[←hM]at E8 E9;clear hM
   go_wp2_with (first
    |((go_at_call 48)
      refine qk (wr.setCell ⟨rb,1,none⟩ (.int .i64 ((ir:Int)+1))) ?_;refine(hx _ _ _ _ h9).mono ?_;rintro e w10 ⟨i10,b10,x10,A10,C10,rfl,N10,s10,T10,l10⟩;have E10:=E9.rst s10;obtain⟨k10,h10⟩:=qX.at h9 s10;have z10:=s10.2.2.1.size;have q10:=E10.hq.cell 4;have r10:=E10.hq.lt;have f10:=E10.hq.free 4;simp only[zR];have E10a:=(E10.alloc (.cells #[.string (bs x10.op),.string (bs x10.s),.int .i64 x10.n,.int .i64 x10.a,.slice A10 x10.l.length C10] 24)).alloc (.cells #[.string (bs x10.op),.string (bs x10.s),.int .i64 x10.n,.int .i64 x10.a,.slice A10 x10.l.length C10] 24);(have N10a:=(E9.row.apart N10 (by simp;omega)).grow (((Below.refl _ w10).alloc (Nat.le_refl _) (.cells #[.string (bs x10.op),.string (bs x10.s),.int .i64 x10.n,.int .i64 x10.a,.slice A10 x10.l.length C10] 24)).alloc (by simp) (.cells #[.string (bs x10.op),.string (bs x10.s),.int .i64 x10.n,.int .i64 x10.a,.slice A10 x10.l.length C10] 24))))
    |((refine zf 79 rfl ?_)
      refine zG rfl _ _ rfl (w2.heap.size+1) (x5::m) _ rfl E10a.row (by simp;omega) (by simp;omega) [x10] [.slice A10 x10.l.length C10] (by simp) (by simp) rfl (Q7 _ _ _) (GX N10a) (w10.heap.size+1) rfl (ze.new_at (by simp)) (M+1) (by rw[HMM.out];simp) ?_;intro A11 C11 w11 R11 B11;have E11:=E10a.put R11 B11;have u11:=(E10a.hq.below B11 (by omega)).cell 4;have v11:=(E10a.hq.below B11 (by omega)).free 4;have y11:=(E10a.hq.below B11 (by omega)).lt;(obtain⟨k11,h11⟩:=E11.at hR))
    |((go_at_call 43)
      refine(j7 h11 [44]).mono ?_;(rintro e w12 ⟨rfl,q12,rfl⟩)))
   go_roundw
   case rel =>
    refine⟨i10,b10,m++ [x10],A11,C11,rfl,?_,HM.out.next hj HC.out T10 s10.1,?_⟩
    ·have e:M+1=(m++ [x10]).length+1:=by rw[HMM.out];simp
     rw[←e];exact E11.drewN q12
    ·have:=s10.1
     simp;omega
   case measure =>
    have e1:=(E11.drewN q12).pos;have e2:=HE8.out;have:=s10.1;rw[e1,e2];omega
theorem Y5{w:World}{rb:Nat}{A:Option Addr}{C:Nat}{ts:zo}{i en:Nat}{k:Int}(h:zF w rb A C ts i en 0 k)(hG:yB ts)(d N:Nat)(hN:N≤12)(hi:i<ts.length)(hk:ts[i].1.kind=0)(hs:ts[i].1.s=qw)
 (hx:∀(w:World) (i:Nat) (bad k:Int),zF w rb A C ts i en bad k→Calls Tryz.prog 48 #[.pointer (some ⟨rb,0,none⟩),.int .i64 ((N:Int)+1)] w (qj w rb A C ts i en bad (zC d))):
 Calls Tryz.prog 48 #[.pointer (some ⟨rb,0,none⟩),.int .i64 (N:Nat)] w (qj w rb A C ts i en 0 (zC (d+1))):=by
 have hpx:=Vh (d:=d) (en:=en) hi hk hs (by decide) (by decide);have hR:=h;have hlt:=h.has.lt;have hf:=h.few
 have hop:∀W k,zF W rb A C ts i en 0 k→Calls Tryz.prog 77 #[.pointer (some ⟨rb,0,none⟩)] W λe w'=>e= .returned (.string ⟨#[115,110,97,112,115,104,111,116]⟩)∧Below W.heap.size W w':=by
  intro W k h;refine(Qb h).mono ?_;rintro e w' ⟨rfl,hb⟩;refine⟨?_,hb⟩
  have :vj ZC (vr 0 ts i)=qw:=by
   have hb:∀s,vr 0 ts i s=(s==qw):=by
    intro s;unfold vr;rw[qu hi];unfold yA;rw[hk,hs];simp only[decide_true,Bool.true_and,beq_self_eq_true,Bool.true_or];rw[Bool.eq_iff_iff];simp only[beq_iff_eq];exact eq_comm
   rw[show vr 0 ts i=λs=>s==qw from funext hb];decide
  rw[this];rfl
 have hpl:∀W k,zF W rb A C ts i en 0 k→Calls Tryz.prog 42 #[.pointer (some ⟨rb,0,none⟩)] W λe w'=>e= .returned (.int .i64 (ts[i].2:Nat))∧Below W.heap.size W w':=by
  intro W k h;refine(jv h).mono ?_;rintro e w' ⟨rfl,q,rfl⟩;rw[jL hi];exact⟨rfl,jG (Below.refl _ _) _⟩
 have h0:=h.kp (zd w (.cells #[.string ⟨#[]⟩,.string ⟨#[]⟩,.int .i64 0,.int .i64 0,.slice none 0 0] 24));have hN0:=ze.new w 24 #[.string ⟨#[]⟩,.string ⟨#[]⟩,.int .i64 0,.int .i64 0,.slice none 0 0];rw[show(zC (d+1))=zC (d+1)from rfl];have fin:∀(e:Ending) (w':World),qj w rb A C ts i en 0 (λ_ _=>zC (d+1) en (ts.drop i)) e w'→qj w rb A C ts i en 0 (zC (d+1)) e w':=λe w' h=>h
 rw[hpx]at fin;generalize ts[i].2=at_ at hpl fin;clear hpx hs hk;have hi1:i+1≤ts.length:=by omega
 have hi5:(i:Int)≤500:=by omega
 go_enter Tryz.func48,Tryz.ntmps48
 go_wp2_with (first
  |((go_at_call 77)
    refine(hop _ _ h0).mono ?_;rintro e w1 ⟨rfl,hb1⟩;have h1:=h0.kp hb1;have c1:=h1.has.cell 3;have l1:=h1.has.lt;(simp only[jg,jd,jf]at c1))
  |((go_at_call 42)
    refine(hpl _ _ h1).mono ?_;rintro e w2 ⟨rfl,hb2⟩;have h2:=h1.kp hb2;have c2:=h2.has.cell 1;have d2:=h2.has.free 1;have l2:=h2.has.lt;simp only[jg,jd,jf]at c2;have N2:=(hN0.below hb1 hN0.lt).below hb2 (hN0.below hb1 hN0.lt).lt;have lp2:=N2.lt;have E3:yv w rb A C ts i en w2.heap.size ⟨#[115,110,97,112,115,104,111,116]⟩ (at_:Nat) ((w2.setCell ⟨rb,1,none⟩ (.int .i64 ((i:Int)+1))).alloc (.cells #[.string ⟨#[115,110,97,112,115,104,111,116]⟩,.string ⟨#[]⟩,.int .i64 0,.int .i64 (at_:Nat),.slice none 0 0] 24)) (i+1) 0 [] (.slice none 0 0):=xt hR hb1 hb2 hi1 hlt;have pq:=E3.pq;(obtain⟨k3,h3⟩:=E3.at hR))
  |((go_at_call 47)
    refine qk ((w2.setCell ⟨rb,1,none⟩ (.int .i64 ((i:Int)+1))).alloc (.cells #[.string ⟨#[115,110,97,112,115,104,111,116]⟩,.string ⟨#[]⟩,.int .i64 0,.int .i64 (at_:Nat),.slice none 0 0] 24)) ?_;refine(qC h3 [40]).mono ?_;rintro e w4 ⟨rfl,i4,b4,s4,t4,T4⟩;rw[jz hG (by decide)]at T4;have E4:=E3.rst s4;obtain⟨k4,h4⟩:=qX.at h3 s4;have z4:=s4.2.2.1.size;have q4:=E4.hq.cell 4;have r4:=E4.hq.lt;(have f4:=E4.hq.free 4))
  |((go_at_call 48)
    refine qk (w4) ?_;refine(hx _ _ _ _ h4).mono ?_;rintro e w5 ⟨i5,b5,x5,A5,C5,rfl,N5,s5,T5,l5⟩;have E5:=E4.rst s5;obtain⟨k5,h5⟩:=qX.at h4 s5;have z5:=s5.2.2.1.size;have q5:=E5.hq.cell 4;have r5:=E5.hq.lt;have f5:=E5.hq.free 4;simp only[zR];have E5a:=(E5.alloc (.cells #[.string (bs x5.op),.string (bs x5.s),.int .i64 x5.n,.int .i64 x5.a,.slice A5 x5.l.length C5] 24)).alloc (.cells #[.string (bs x5.op),.string (bs x5.s),.int .i64 x5.n,.int .i64 x5.a,.slice A5 x5.l.length C5] 24);(have N5a:=(E4.row.apart N5 (by omega)).grow (((Below.refl _ w5).alloc (Nat.le_refl _) (.cells #[.string (bs x5.op),.string (bs x5.s),.int .i64 x5.n,.int .i64 x5.a,.slice A5 x5.l.length C5] 24)).alloc (by simp) (.cells #[.string (bs x5.op),.string (bs x5.s),.int .i64 x5.n,.int .i64 x5.a,.slice A5 x5.l.length C5] 24))))
  |((refine zf 58 rfl ?_)
    refine zG rfl _ _ rfl (w2.heap.size+1) [] _ rfl E5a.row (by simp;omega) (by decide) [x5] [.slice A5 x5.l.length C5] (by simp) (by simp) rfl (Q7 _ _ _) (GX N5a) (w5.heap.size+1) rfl (ze.new_at (by simp)) 1 rfl ?_;intro A6 C6 w6 R6 B6;have E6:=E5a.put R6 B6;have u6:=(E5a.hq.below B6 (by omega)).cell 4;have v6:=(E5a.hq.below B6 (by omega)).free 4;have y6:=(E5a.hq.below B6 (by omega)).lt;(obtain⟨k6,h6⟩:=E6.at hR))
  |((go_at_call 47)
    refine qk (w6.setCell ⟨w2.heap.size,4,none⟩ (.slice A6 1 C6)) ?_;refine(qC h6 [44]).mono ?_;rintro e w7 ⟨rfl,i7,b7,s7,t7,T7⟩;rw[jz hG (by decide)]at T7;have E7:=E6.rst s7;obtain⟨k7,h7⟩:=qX.at h6 s7;have z7:=s7.2.2.1.size;have q7:=E7.hq.cell 4;have r7:=E7.hq.lt;(have f7:=E7.hq.free 4))
  |((go_at_call 48)
    refine qk (w7) ?_;refine(hx _ _ _ _ h7).mono ?_;rintro e w8 ⟨i8,b8,x8,A8,C8,rfl,N8,s8,T8,l8⟩;have E8:=E7.rst s8;obtain⟨k8,h8⟩:=qX.at h7 s8;have z8:=s8.2.2.1.size;have q8:=E8.hq.cell 4;have r8:=E8.hq.lt;have f8:=E8.hq.free 4;simp only[zR];have E8a:=E8.alloc (.cells #[.string (bs x8.op),.string (bs x8.s),.int .i64 x8.n,.int .i64 x8.a,.slice A8 x8.l.length C8] 24);obtain⟨k8a,h8a⟩:=E8a.at hR;have O8:=ze.new w8 24 #[.string (bs x8.op),.string (bs x8.s),.int .i64 x8.n,.int .i64 x8.a,.slice A8 x8.l.length C8];(have N8a:=(E7.row.apart N8 (by omega))))
  |((go_at_call 47)
    refine qk (w8.alloc (.cells #[.string (bs x8.op),.string (bs x8.s),.int .i64 x8.n,.int .i64 x8.a,.slice A8 x8.l.length C8] 24)) ?_;refine(qC h8a [44]).mono ?_;rintro e w9 ⟨rfl,i9,b9,s9,t9,T9⟩;rw[jz hG (by decide)]at T9;have E9:=E8a.rst s9;obtain⟨k9,h9⟩:=qX.at h8a s9;have z9:=s9.2.2.1.size;have q9:=E9.hq.cell 4;have r9:=E9.hq.lt;have f9:=E9.hq.free 4;(have O9:=O8.kp s9.2.2.1 (by omega)))
  |((go_at_call 78)
    refine qk (w9) ?_;refine(Jd h9 (zC d)).mono ?_;rintro e w10 ⟨i10,b10,x10,A10,C10,rfl,N10,s10,T10,l10⟩;have E10:=E9.rst s10;obtain⟨k10,h10⟩:=qX.at h9 s10;have z10:=s10.2.2.1.size;have q10:=E10.hq.cell 4;have r10:=E10.hq.lt;have f10:=E10.hq.free 4;have O10:=O9.kp s10.2.2.1 (by omega);simp only[zR];have cc0:=O10.cell 0;have cc1:=O10.cell 1;have cc2:=O10.cell 2;have cc3:=O10.cell 3;have cc4:=O10.cell 4;have lo10:=O10.lt;have E10a:=(E10.alloc (.cells #[.string (bs x10.op),.string (bs x10.s),.int .i64 x10.n,.int .i64 x10.a,.slice A10 x10.l.length C10] 24)).alloc (.cells #[.string (bs x8.op),.string (bs x8.s),.int .i64 x8.n,.int .i64 x8.a,.slice A8 x8.l.length C8,.string (bs x10.op),.string (bs x10.s),.int .i64 x10.n,.int .i64 x10.a,.slice A10 x10.l.length C10] 24);have N10a:=(E9.row.apart N10 (by omega)).grow (((Below.refl _ w10).alloc (Nat.le_refl _) (.cells #[.string (bs x10.op),.string (bs x10.s),.int .i64 x10.n,.int .i64 x10.a,.slice A10 x10.l.length C10] 24)).alloc (by simp) (.cells #[.string (bs x8.op),.string (bs x8.s),.int .i64 x8.n,.int .i64 x8.a,.slice A8 x8.l.length C8,.string (bs x10.op),.string (bs x10.s),.int .i64 x10.n,.int .i64 x10.a,.slice A10 x10.l.length C10] 24));(have N8b:=(N8a.kp (((Kp.of (zd w8 (.cells #[.string (bs x8.op),.string (bs x8.s),.int .i64 x8.n,.int .i64 x8.a,.slice A8 x8.l.length C8] 24))).trans s9.2.2.1).trans s10.2.2.1) (λg hg=>by omega)).grow (((Below.refl _ w10).alloc (Nat.le_refl _) (.cells #[.string (bs x10.op),.string (bs x10.s),.int .i64 x10.n,.int .i64 x10.a,.slice A10 x10.l.length C10] 24)).alloc (by simp) (.cells #[.string (bs x8.op),.string (bs x8.s),.int .i64 x8.n,.int .i64 x8.a,.slice A8 x8.l.length C8,.string (bs x10.op),.string (bs x10.s),.int .i64 x10.n,.int .i64 x10.a,.slice A10 x10.l.length C10] 24))))
  |((refine zf 117 rfl ?_)
    refine zG rfl _ _ rfl (w2.heap.size+1) [x5] _ rfl E10a.row (by simp;omega) (by simp) [x8,x10] [.slice A8 x8.l.length C8,.slice A10 x10.l.length C10] (by simp) (by simp) rfl (zbm _ _ _ _ _ _) (nd2 N8b N10a) (w10.heap.size+1) rfl (ze.new_at (by simp)) 3 rfl ?_;intro A11 C11 w11 R11 B11;have E11:=E10a.put R11 B11;have u11:=(E10a.hq.below B11 (by omega)).cell 4;have v11:=(E10a.hq.below B11 (by omega)).free 4;have y11:=(E10a.hq.below B11 (by omega)).lt;(obtain⟨k11,h11⟩:=E11.at hR))
  |((go_at_call 47)
    refine qk (w11.setCell ⟨w2.heap.size,4,none⟩ (.slice A11 3 C11)) ?_;refine(qC h11 [41]).mono ?_;rintro e w12 ⟨rfl,i12,b12,s12,t12,T12⟩;rw[jz hG (by decide)]at T12;have E12:=E11.rst s12;obtain⟨k12,h12⟩:=qX.at h11 s12;have z12:=s12.2.2.1.size;have q12:=E12.hq.cell 4;have r12:=E12.hq.lt;have f12:=E12.hq.free 4;have p12:=E12.hp.lt;have ca0:=E12.hp.cell 0;have ca1:=E12.hp.cell 1;have ca2:=E12.hp.cell 2;have ca3:=E12.hp.cell 3;have ca4:=E12.hp.cell 4;have fa0:=E12.hp.free 0;have fa1:=E12.hp.free 1;have fa2:=E12.hp.free 2;have fa3:=E12.hp.free 3;have fa4:=E12.hp.free 4;have cb0:=E12.hq.cell 0;have cb1:=E12.hq.cell 1;have cb2:=E12.hq.cell 2;have cb3:=E12.hq.cell 3;(have cb4:=E12.hq.cell 4))
  )
 refine zY rfl rfl (E12.hp.set5 _ _ _ _ _) rfl (fin _ _ ?_);refine⟨i12,b12,.mk qw [] 0 (at_:Nat) [x5,x8,x10],A11,C11,rfl,?_,qX.set5 E12.st (Nat.le_refl _) hlt _ _ _ _ _,(ZD rfl T4 (Ga (ks:= .ex) (kt:= .nu) T5 T7 T8 T9 T10) T12).map (λl=>Nd.mk qw [] 0 (at_:Nat) l),Nat.le_of_ble_eq_true rfl⟩;exact(E12.row.done.mono λg hg=>(by omega:w.heap.size≤g∧g≠w.heap.size)).set5 (λg hg=>hg.2) _ _ _ _ _ |>.mono λg hg=>hg.1
theorem ga{w:World}{rb:Nat}{A:Option Addr}{C:Nat}{ts:zo}{i en:Nat}{k:Int}(h:zF w rb A C ts i en 0 k)(hG:yB ts)(d N:Nat)(hN:N≤12)(hi:i<ts.length)(hk:ts[i].1.kind=0)(hs:ts[i].1.s=vx)
 (hx:∀(w:World) (i:Nat) (bad k:Int),zF w rb A C ts i en bad k→Calls Tryz.prog 48 #[.pointer (some ⟨rb,0,none⟩),.int .i64 ((N:Int)+1)] w (qj w rb A C ts i en bad (zC d))):
 Calls Tryz.prog 48 #[.pointer (some ⟨rb,0,none⟩),.int .i64 (N:Nat)] w (qj w rb A C ts i en 0 (zC (d+1))):=by
 have hpx:=Vh (d:=d) (en:=en) hi hk hs (by decide) (by decide);have hR:=h;have hlt:=h.has.lt;have hf:=h.few
 have hop:∀W k,zF W rb A C ts i en 0 k→Calls Tryz.prog 77 #[.pointer (some ⟨rb,0,none⟩)] W λe w'=>e= .returned (.string ⟨#[99,114,121,112,116]⟩)∧Below W.heap.size W w':=by
  intro W k h;refine(Qb h).mono ?_;rintro e w' ⟨rfl,hb⟩;refine⟨?_,hb⟩
  have :vj ZC (vr 0 ts i)=vx:=by
   have hb:∀s,vr 0 ts i s=(s==vx):=by
    intro s;unfold vr;rw[qu hi];unfold yA;rw[hk,hs];simp only[decide_true,Bool.true_and,beq_self_eq_true,Bool.true_or];rw[Bool.eq_iff_iff];simp only[beq_iff_eq];exact eq_comm
   rw[show vr 0 ts i=λs=>s==vx from funext hb];decide
  rw[this];rfl
 have hpl:∀W k,zF W rb A C ts i en 0 k→Calls Tryz.prog 42 #[.pointer (some ⟨rb,0,none⟩)] W λe w'=>e= .returned (.int .i64 (ts[i].2:Nat))∧Below W.heap.size W w':=by
  intro W k h;refine(jv h).mono ?_;rintro e w' ⟨rfl,q,rfl⟩;rw[jL hi];exact⟨rfl,jG (Below.refl _ _) _⟩
 have h0:=h.kp (zd w (.cells #[.string ⟨#[]⟩,.string ⟨#[]⟩,.int .i64 0,.int .i64 0,.slice none 0 0] 24));have hN0:=ze.new w 24 #[.string ⟨#[]⟩,.string ⟨#[]⟩,.int .i64 0,.int .i64 0,.slice none 0 0];rw[show(zC (d+1))=zC (d+1)from rfl];have fin:∀(e:Ending) (w':World),qj w rb A C ts i en 0 (λ_ _=>zC (d+1) en (ts.drop i)) e w'→qj w rb A C ts i en 0 (zC (d+1)) e w':=λe w' h=>h
 rw[hpx]at fin;generalize ts[i].2=at_ at hpl fin;clear hpx hs hk;have hi1:i+1≤ts.length:=by omega
 have hi5:(i:Int)≤500:=by omega
 go_enter Tryz.func48,Tryz.ntmps48
 go_wp2_with (first
  |((go_at_call 77)
    refine(hop _ _ h0).mono ?_;rintro e w1 ⟨rfl,hb1⟩;have h1:=h0.kp hb1;have c1:=h1.has.cell 3;have l1:=h1.has.lt;(simp only[jg,jd,jf]at c1))
  |((go_at_call 42)
    refine(hpl _ _ h1).mono ?_;rintro e w2 ⟨rfl,hb2⟩;have h2:=h1.kp hb2;have c2:=h2.has.cell 1;have d2:=h2.has.free 1;have l2:=h2.has.lt;simp only[jg,jd,jf]at c2;have N2:=(hN0.below hb1 hN0.lt).below hb2 (hN0.below hb1 hN0.lt).lt;have lp2:=N2.lt;have E3:yv w rb A C ts i en w2.heap.size ⟨#[99,114,121,112,116]⟩ (at_:Nat) ((w2.setCell ⟨rb,1,none⟩ (.int .i64 ((i:Int)+1))).alloc (.cells #[.string ⟨#[99,114,121,112,116]⟩,.string ⟨#[]⟩,.int .i64 0,.int .i64 (at_:Nat),.slice none 0 0] 24)) (i+1) 0 [] (.slice none 0 0):=xt hR hb1 hb2 hi1 hlt;have pq:=E3.pq;(obtain⟨k3,h3⟩:=E3.at hR))
  |((go_at_call 47)
    refine qk ((w2.setCell ⟨rb,1,none⟩ (.int .i64 ((i:Int)+1))).alloc (.cells #[.string ⟨#[99,114,121,112,116]⟩,.string ⟨#[]⟩,.int .i64 0,.int .i64 (at_:Nat),.slice none 0 0] 24)) ?_;refine(qC h3 [40]).mono ?_;rintro e w4 ⟨rfl,i4,b4,s4,t4,T4⟩;rw[jz hG (by decide)]at T4;have E4:=E3.rst s4;obtain⟨k4,h4⟩:=qX.at h3 s4;have z4:=s4.2.2.1.size;have q4:=E4.hq.cell 4;have r4:=E4.hq.lt;(have f4:=E4.hq.free 4))
  |((go_at_call 48)
    refine qk (w4) ?_;refine(hx _ _ _ _ h4).mono ?_;rintro e w5 ⟨i5,b5,x5,A5,C5,rfl,N5,s5,T5,l5⟩;have E5:=E4.rst s5;obtain⟨k5,h5⟩:=qX.at h4 s5;have z5:=s5.2.2.1.size;have q5:=E5.hq.cell 4;have r5:=E5.hq.lt;have f5:=E5.hq.free 4;simp only[zR];have E5a:=(E5.alloc (.cells #[.string (bs x5.op),.string (bs x5.s),.int .i64 x5.n,.int .i64 x5.a,.slice A5 x5.l.length C5] 24)).alloc (.cells #[.string (bs x5.op),.string (bs x5.s),.int .i64 x5.n,.int .i64 x5.a,.slice A5 x5.l.length C5] 24);(have N5a:=(E4.row.apart N5 (by omega)).grow (((Below.refl _ w5).alloc (Nat.le_refl _) (.cells #[.string (bs x5.op),.string (bs x5.s),.int .i64 x5.n,.int .i64 x5.a,.slice A5 x5.l.length C5] 24)).alloc (by simp) (.cells #[.string (bs x5.op),.string (bs x5.s),.int .i64 x5.n,.int .i64 x5.a,.slice A5 x5.l.length C5] 24))))
  |((refine zf 58 rfl ?_)
    refine zG rfl _ _ rfl (w2.heap.size+1) [] _ rfl E5a.row (by simp;omega) (by decide) [x5] [.slice A5 x5.l.length C5] (by simp) (by simp) rfl (Q7 _ _ _) (GX N5a) (w5.heap.size+1) rfl (ze.new_at (by simp)) 1 rfl ?_;intro A6 C6 w6 R6 B6;have E6:=E5a.put R6 B6;have u6:=(E5a.hq.below B6 (by omega)).cell 4;have v6:=(E5a.hq.below B6 (by omega)).free 4;have y6:=(E5a.hq.below B6 (by omega)).lt;(obtain⟨k6,h6⟩:=E6.at hR))
  |((go_at_call 47)
    refine qk (w6.setCell ⟨w2.heap.size,4,none⟩ (.slice A6 1 C6)) ?_;refine(qC h6 [44]).mono ?_;rintro e w7 ⟨rfl,i7,b7,s7,t7,T7⟩;rw[jz hG (by decide)]at T7;have E7:=E6.rst s7;obtain⟨k7,h7⟩:=qX.at h6 s7;have z7:=s7.2.2.1.size;have q7:=E7.hq.cell 4;have r7:=E7.hq.lt;(have f7:=E7.hq.free 4))
  |((go_at_call 79)
    refine qk (w7) ?_;refine(JR h7 (zC d)).mono ?_;rintro e w8 ⟨i8,b8,x8,A8,C8,rfl,N8,s8,T8,l8⟩;have E8:=E7.rst s8;obtain⟨k8,h8⟩:=qX.at h7 s8;have z8:=s8.2.2.1.size;have q8:=E8.hq.cell 4;have r8:=E8.hq.lt;have f8:=E8.hq.free 4;simp only[zR];have E8a:=(E8.alloc (.cells #[.string (bs x8.op),.string (bs x8.s),.int .i64 x8.n,.int .i64 x8.a,.slice A8 x8.l.length C8] 24)).alloc (.cells #[.string (bs x8.op),.string (bs x8.s),.int .i64 x8.n,.int .i64 x8.a,.slice A8 x8.l.length C8] 24);(have N8a:=(E7.row.apart N8 (by omega)).grow (((Below.refl _ w8).alloc (Nat.le_refl _) (.cells #[.string (bs x8.op),.string (bs x8.s),.int .i64 x8.n,.int .i64 x8.a,.slice A8 x8.l.length C8] 24)).alloc (by simp) (.cells #[.string (bs x8.op),.string (bs x8.s),.int .i64 x8.n,.int .i64 x8.a,.slice A8 x8.l.length C8] 24))))
  |((refine zf 131 rfl ?_)
    refine zG rfl _ _ rfl (w2.heap.size+1) [x5] _ rfl E8a.row (by simp;omega) (by simp) [x8] [.slice A8 x8.l.length C8] (by simp) (by simp) rfl (Q7 _ _ _) (GX N8a) (w8.heap.size+1) rfl (ze.new_at (by simp)) 2 rfl ?_;intro A9 C9 w9 R9 B9;have E9:=E8a.put R9 B9;have u9:=(E8a.hq.below B9 (by omega)).cell 4;have v9:=(E8a.hq.below B9 (by omega)).free 4;have y9:=(E8a.hq.below B9 (by omega)).lt;(obtain⟨k9,h9⟩:=E9.at hR))
  |((go_at_call 47)
    refine qk (w9.setCell ⟨w2.heap.size,4,none⟩ (.slice A9 2 C9)) ?_;refine(qC h9 [41]).mono ?_;rintro e w10 ⟨rfl,i10,b10,s10,t10,T10⟩;rw[jz hG (by decide)]at T10;have E10:=E9.rst s10;obtain⟨k10,h10⟩:=qX.at h9 s10;have z10:=s10.2.2.1.size;have q10:=E10.hq.cell 4;have r10:=E10.hq.lt;have f10:=E10.hq.free 4;have p10:=E10.hp.lt;have ca0:=E10.hp.cell 0;have ca1:=E10.hp.cell 1;have ca2:=E10.hp.cell 2;have ca3:=E10.hp.cell 3;have ca4:=E10.hp.cell 4;have fa0:=E10.hp.free 0;have fa1:=E10.hp.free 1;have fa2:=E10.hp.free 2;have fa3:=E10.hp.free 3;have fa4:=E10.hp.free 4;have cb0:=E10.hq.cell 0;have cb1:=E10.hq.cell 1;have cb2:=E10.hq.cell 2;have cb3:=E10.hq.cell 3;(have cb4:=E10.hq.cell 4))
  )
 refine zY rfl rfl (E10.hp.set5 _ _ _ _ _) rfl (fin _ _ ?_);refine⟨i10,b10,.mk vx [] 0 (at_:Nat) [x5,x8],A9,C9,rfl,?_,qX.set5 E10.st (Nat.le_refl _) hlt _ _ _ _ _,(ZD rfl T4 (YQ (ks:= .na) T5 T7 T8) T10).map (λl=>Nd.mk vx [] 0 (at_:Nat) l),Nat.le_of_ble_eq_true rfl⟩;exact(E10.row.done.mono λg hg=>(by omega:w.heap.size≤g∧g≠w.heap.size)).set5 (λg hg=>hg.2) _ _ _ _ _ |>.mono λg hg=>hg.1
theorem VU{w:World}{rb:Nat}{A:Option Addr}{C:Nat}{ts:zo}{i en:Nat}{k:Int}(h:zF w rb A C ts i en 0 k)(hG:yB ts)(d N:Nat)(hN:N≤12)(hi:i<ts.length)(hk:ts[i].1.kind=0)(hs:ts[i].1.s=qH)
 (hx:∀(w:World) (i:Nat) (bad k:Int),zF w rb A C ts i en bad k→Calls Tryz.prog 48 #[.pointer (some ⟨rb,0,none⟩),.int .i64 ((N:Int)+1)] w (qj w rb A C ts i en bad (zC d))):
 Calls Tryz.prog 48 #[.pointer (some ⟨rb,0,none⟩),.int .i64 (N:Nat)] w (qj w rb A C ts i en 0 (zC (d+1))):=by
 have hpx:=Vh (d:=d) (en:=en) hi hk hs (by decide) (by decide);have hR:=h;have hlt:=h.has.lt;have hf:=h.few
 have hop:∀W k,zF W rb A C ts i en 0 k→Calls Tryz.prog 77 #[.pointer (some ⟨rb,0,none⟩)] W λe w'=>e= .returned (.string ⟨#[105,110,116,101,103,114,105,116,121]⟩)∧Below W.heap.size W w':=by
  intro W k h;refine(Qb h).mono ?_;rintro e w' ⟨rfl,hb⟩;refine⟨?_,hb⟩
  have :vj ZC (vr 0 ts i)=qH:=by
   have hb:∀s,vr 0 ts i s=(s==qH):=by
    intro s;unfold vr;rw[qu hi];unfold yA;rw[hk,hs];simp only[decide_true,Bool.true_and,beq_self_eq_true,Bool.true_or];rw[Bool.eq_iff_iff];simp only[beq_iff_eq];exact eq_comm
   rw[show vr 0 ts i=λs=>s==qH from funext hb];decide
  rw[this];rfl
 have hpl:∀W k,zF W rb A C ts i en 0 k→Calls Tryz.prog 42 #[.pointer (some ⟨rb,0,none⟩)] W λe w'=>e= .returned (.int .i64 (ts[i].2:Nat))∧Below W.heap.size W w':=by
  intro W k h;refine(jv h).mono ?_;rintro e w' ⟨rfl,q,rfl⟩;rw[jL hi];exact⟨rfl,jG (Below.refl _ _) _⟩
 have h0:=h.kp (zd w (.cells #[.string ⟨#[]⟩,.string ⟨#[]⟩,.int .i64 0,.int .i64 0,.slice none 0 0] 24));have hN0:=ze.new w 24 #[.string ⟨#[]⟩,.string ⟨#[]⟩,.int .i64 0,.int .i64 0,.slice none 0 0];rw[show(zC (d+1))=zC (d+1)from rfl];have fin:∀(e:Ending) (w':World),qj w rb A C ts i en 0 (λ_ _=>zC (d+1) en (ts.drop i)) e w'→qj w rb A C ts i en 0 (zC (d+1)) e w':=λe w' h=>h
 rw[hpx]at fin;generalize ts[i].2=at_ at hpl fin;clear hpx hs hk;have hi1:i+1≤ts.length:=by omega
 have hi5:(i:Int)≤500:=by omega
 go_enter Tryz.func48,Tryz.ntmps48
 go_wp2_with (first
  |((go_at_call 77)
    refine(hop _ _ h0).mono ?_;rintro e w1 ⟨rfl,hb1⟩;have h1:=h0.kp hb1;have c1:=h1.has.cell 3;have l1:=h1.has.lt;(simp only[jg,jd,jf]at c1))
  |((go_at_call 42)
    refine(hpl _ _ h1).mono ?_;rintro e w2 ⟨rfl,hb2⟩;have h2:=h1.kp hb2;have c2:=h2.has.cell 1;have d2:=h2.has.free 1;have l2:=h2.has.lt;simp only[jg,jd,jf]at c2;have N2:=(hN0.below hb1 hN0.lt).below hb2 (hN0.below hb1 hN0.lt).lt;have lp2:=N2.lt;have E3:yv w rb A C ts i en w2.heap.size ⟨#[105,110,116,101,103,114,105,116,121]⟩ (at_:Nat) ((w2.setCell ⟨rb,1,none⟩ (.int .i64 ((i:Int)+1))).alloc (.cells #[.string ⟨#[105,110,116,101,103,114,105,116,121]⟩,.string ⟨#[]⟩,.int .i64 0,.int .i64 (at_:Nat),.slice none 0 0] 24)) (i+1) 0 [] (.slice none 0 0):=xt hR hb1 hb2 hi1 hlt;have pq:=E3.pq;(obtain⟨k3,h3⟩:=E3.at hR))
  |((go_at_call 47)
    refine qk ((w2.setCell ⟨rb,1,none⟩ (.int .i64 ((i:Int)+1))).alloc (.cells #[.string ⟨#[105,110,116,101,103,114,105,116,121]⟩,.string ⟨#[]⟩,.int .i64 0,.int .i64 (at_:Nat),.slice none 0 0] 24)) ?_;refine(qC h3 [40]).mono ?_;rintro e w4 ⟨rfl,i4,b4,s4,t4,T4⟩;rw[jz hG (by decide)]at T4;have E4:=E3.rst s4;obtain⟨k4,h4⟩:=qX.at h3 s4;have z4:=s4.2.2.1.size;have q4:=E4.hq.cell 4;have r4:=E4.hq.lt;(have f4:=E4.hq.free 4))
  |((go_at_call 48)
    refine qk (w4) ?_;refine(hx _ _ _ _ h4).mono ?_;rintro e w5 ⟨i5,b5,x5,A5,C5,rfl,N5,s5,T5,l5⟩;have E5:=E4.rst s5;obtain⟨k5,h5⟩:=qX.at h4 s5;have z5:=s5.2.2.1.size;have q5:=E5.hq.cell 4;have r5:=E5.hq.lt;have f5:=E5.hq.free 4;simp only[zR];have E5a:=(E5.alloc (.cells #[.string (bs x5.op),.string (bs x5.s),.int .i64 x5.n,.int .i64 x5.a,.slice A5 x5.l.length C5] 24)).alloc (.cells #[.string (bs x5.op),.string (bs x5.s),.int .i64 x5.n,.int .i64 x5.a,.slice A5 x5.l.length C5] 24);(have N5a:=(E4.row.apart N5 (by omega)).grow (((Below.refl _ w5).alloc (Nat.le_refl _) (.cells #[.string (bs x5.op),.string (bs x5.s),.int .i64 x5.n,.int .i64 x5.a,.slice A5 x5.l.length C5] 24)).alloc (by simp) (.cells #[.string (bs x5.op),.string (bs x5.s),.int .i64 x5.n,.int .i64 x5.a,.slice A5 x5.l.length C5] 24))))
  |((refine zf 58 rfl ?_)
    refine zG rfl _ _ rfl (w2.heap.size+1) [] _ rfl E5a.row (by simp;omega) (by decide) [x5] [.slice A5 x5.l.length C5] (by simp) (by simp) rfl (Q7 _ _ _) (GX N5a) (w5.heap.size+1) rfl (ze.new_at (by simp)) 1 rfl ?_;intro A6 C6 w6 R6 B6;have E6:=E5a.put R6 B6;have u6:=(E5a.hq.below B6 (by omega)).cell 4;have v6:=(E5a.hq.below B6 (by omega)).free 4;have y6:=(E5a.hq.below B6 (by omega)).lt;(obtain⟨k6,h6⟩:=E6.at hR))
  |((go_at_call 47)
    refine qk (w6.setCell ⟨w2.heap.size,4,none⟩ (.slice A6 1 C6)) ?_;refine(qC h6 [44]).mono ?_;rintro e w7 ⟨rfl,i7,b7,s7,t7,T7⟩;rw[jz hG (by decide)]at T7;have E7:=E6.rst s7;obtain⟨k7,h7⟩:=qX.at h6 s7;have z7:=s7.2.2.1.size;have q7:=E7.hq.cell 4;have r7:=E7.hq.lt;(have f7:=E7.hq.free 4))
  |((go_at_call 79)
    refine qk (w7) ?_;refine(JR h7 (zC d)).mono ?_;rintro e w8 ⟨i8,b8,x8,A8,C8,rfl,N8,s8,T8,l8⟩;have E8:=E7.rst s8;obtain⟨k8,h8⟩:=qX.at h7 s8;have z8:=s8.2.2.1.size;have q8:=E8.hq.cell 4;have r8:=E8.hq.lt;have f8:=E8.hq.free 4;simp only[zR];have E8a:=(E8.alloc (.cells #[.string (bs x8.op),.string (bs x8.s),.int .i64 x8.n,.int .i64 x8.a,.slice A8 x8.l.length C8] 24)).alloc (.cells #[.string (bs x8.op),.string (bs x8.s),.int .i64 x8.n,.int .i64 x8.a,.slice A8 x8.l.length C8] 24);(have N8a:=(E7.row.apart N8 (by omega)).grow (((Below.refl _ w8).alloc (Nat.le_refl _) (.cells #[.string (bs x8.op),.string (bs x8.s),.int .i64 x8.n,.int .i64 x8.a,.slice A8 x8.l.length C8] 24)).alloc (by simp) (.cells #[.string (bs x8.op),.string (bs x8.s),.int .i64 x8.n,.int .i64 x8.a,.slice A8 x8.l.length C8] 24))))
  |((refine zf 131 rfl ?_)
    refine zG rfl _ _ rfl (w2.heap.size+1) [x5] _ rfl E8a.row (by simp;omega) (by simp) [x8] [.slice A8 x8.l.length C8] (by simp) (by simp) rfl (Q7 _ _ _) (GX N8a) (w8.heap.size+1) rfl (ze.new_at (by simp)) 2 rfl ?_;intro A9 C9 w9 R9 B9;have E9:=E8a.put R9 B9;have u9:=(E8a.hq.below B9 (by omega)).cell 4;have v9:=(E8a.hq.below B9 (by omega)).free 4;have y9:=(E8a.hq.below B9 (by omega)).lt;(obtain⟨k9,h9⟩:=E9.at hR))
  |((go_at_call 47)
    refine qk (w9.setCell ⟨w2.heap.size,4,none⟩ (.slice A9 2 C9)) ?_;refine(qC h9 [41]).mono ?_;rintro e w10 ⟨rfl,i10,b10,s10,t10,T10⟩;rw[jz hG (by decide)]at T10;have E10:=E9.rst s10;obtain⟨k10,h10⟩:=qX.at h9 s10;have z10:=s10.2.2.1.size;have q10:=E10.hq.cell 4;have r10:=E10.hq.lt;have f10:=E10.hq.free 4;have p10:=E10.hp.lt;have ca0:=E10.hp.cell 0;have ca1:=E10.hp.cell 1;have ca2:=E10.hp.cell 2;have ca3:=E10.hp.cell 3;have ca4:=E10.hp.cell 4;have fa0:=E10.hp.free 0;have fa1:=E10.hp.free 1;have fa2:=E10.hp.free 2;have fa3:=E10.hp.free 3;have fa4:=E10.hp.free 4;have cb0:=E10.hq.cell 0;have cb1:=E10.hq.cell 1;have cb2:=E10.hq.cell 2;have cb3:=E10.hq.cell 3;(have cb4:=E10.hq.cell 4))
  )
 refine zY rfl rfl (E10.hp.set5 _ _ _ _ _) rfl (fin _ _ ?_);refine⟨i10,b10,.mk qH [] 0 (at_:Nat) [x5,x8],A9,C9,rfl,?_,qX.set5 E10.st (Nat.le_refl _) hlt _ _ _ _ _,(ZD rfl T4 (YQ (ks:= .na) T5 T7 T8) T10).map (λl=>Nd.mk qH [] 0 (at_:Nat) l),Nat.le_of_ble_eq_true rfl⟩;exact(E10.row.done.mono λg hg=>(by omega:w.heap.size≤g∧g≠w.heap.size)).set5 (λg hg=>hg.2) _ _ _ _ _ |>.mono λg hg=>hg.1
theorem UL{w:World}{rb:Nat}{A:Option Addr}{C:Nat}{ts:zo}{i en:Nat}{k:Int}(h:zF w rb A C ts i en 0 k)(hG:yB ts)(d N:Nat)(hN:N≤12)(hi:i<ts.length)(hk:ts[i].1.kind=0)(hs:ts[i].1.s=jV)
 (hx:∀(w:World) (i:Nat) (bad k:Int),zF w rb A C ts i en bad k→Calls Tryz.prog 48 #[.pointer (some ⟨rb,0,none⟩),.int .i64 ((N:Int)+1)] w (qj w rb A C ts i en bad (zC d))):
 Calls Tryz.prog 48 #[.pointer (some ⟨rb,0,none⟩),.int .i64 (N:Nat)] w (qj w rb A C ts i en 0 (zC (d+1))):=by
 have hpx:=Vh (d:=d) (en:=en) hi hk hs (by decide) (by decide);have hR:=h;have hlt:=h.has.lt;have hf:=h.few
 have hop:∀W k,zF W rb A C ts i en 0 k→Calls Tryz.prog 77 #[.pointer (some ⟨rb,0,none⟩)] W λe w'=>e= .returned (.string ⟨#[118,101,114,105,116,121]⟩)∧Below W.heap.size W w':=by
  intro W k h;refine(Qb h).mono ?_;rintro e w' ⟨rfl,hb⟩;refine⟨?_,hb⟩
  have :vj ZC (vr 0 ts i)=jV:=by
   have hb:∀s,vr 0 ts i s=(s==jV):=by
    intro s;unfold vr;rw[qu hi];unfold yA;rw[hk,hs];simp only[decide_true,Bool.true_and,beq_self_eq_true,Bool.true_or];rw[Bool.eq_iff_iff];simp only[beq_iff_eq];exact eq_comm
   rw[show vr 0 ts i=λs=>s==jV from funext hb];decide
  rw[this];rfl
 have hpl:∀W k,zF W rb A C ts i en 0 k→Calls Tryz.prog 42 #[.pointer (some ⟨rb,0,none⟩)] W λe w'=>e= .returned (.int .i64 (ts[i].2:Nat))∧Below W.heap.size W w':=by
  intro W k h;refine(jv h).mono ?_;rintro e w' ⟨rfl,q,rfl⟩;rw[jL hi];exact⟨rfl,jG (Below.refl _ _) _⟩
 have h0:=h.kp (zd w (.cells #[.string ⟨#[]⟩,.string ⟨#[]⟩,.int .i64 0,.int .i64 0,.slice none 0 0] 24));have hN0:=ze.new w 24 #[.string ⟨#[]⟩,.string ⟨#[]⟩,.int .i64 0,.int .i64 0,.slice none 0 0];rw[show(zC (d+1))=zC (d+1)from rfl];have fin:∀(e:Ending) (w':World),qj w rb A C ts i en 0 (λ_ _=>zC (d+1) en (ts.drop i)) e w'→qj w rb A C ts i en 0 (zC (d+1)) e w':=λe w' h=>h
 rw[hpx]at fin;generalize ts[i].2=at_ at hpl fin;clear hpx hs hk;have hi1:i+1≤ts.length:=by omega
 have hi5:(i:Int)≤500:=by omega
 go_enter Tryz.func48,Tryz.ntmps48
 go_wp2_with (first
  |((go_at_call 77)
    refine(hop _ _ h0).mono ?_;rintro e w1 ⟨rfl,hb1⟩;have h1:=h0.kp hb1;have c1:=h1.has.cell 3;have l1:=h1.has.lt;(simp only[jg,jd,jf]at c1))
  |((go_at_call 42)
    refine(hpl _ _ h1).mono ?_;rintro e w2 ⟨rfl,hb2⟩;have h2:=h1.kp hb2;have c2:=h2.has.cell 1;have d2:=h2.has.free 1;have l2:=h2.has.lt;simp only[jg,jd,jf]at c2;have N2:=(hN0.below hb1 hN0.lt).below hb2 (hN0.below hb1 hN0.lt).lt;have lp2:=N2.lt;have E3:yv w rb A C ts i en w2.heap.size ⟨#[118,101,114,105,116,121]⟩ (at_:Nat) ((w2.setCell ⟨rb,1,none⟩ (.int .i64 ((i:Int)+1))).alloc (.cells #[.string ⟨#[118,101,114,105,116,121]⟩,.string ⟨#[]⟩,.int .i64 0,.int .i64 (at_:Nat),.slice none 0 0] 24)) (i+1) 0 [] (.slice none 0 0):=xt hR hb1 hb2 hi1 hlt;have pq:=E3.pq;(obtain⟨k3,h3⟩:=E3.at hR))
  |((go_at_call 47)
    refine qk ((w2.setCell ⟨rb,1,none⟩ (.int .i64 ((i:Int)+1))).alloc (.cells #[.string ⟨#[118,101,114,105,116,121]⟩,.string ⟨#[]⟩,.int .i64 0,.int .i64 (at_:Nat),.slice none 0 0] 24)) ?_;refine(qC h3 [40]).mono ?_;rintro e w4 ⟨rfl,i4,b4,s4,t4,T4⟩;rw[jz hG (by decide)]at T4;have E4:=E3.rst s4;obtain⟨k4,h4⟩:=qX.at h3 s4;have z4:=s4.2.2.1.size;have q4:=E4.hq.cell 4;have r4:=E4.hq.lt;(have f4:=E4.hq.free 4))
  |((go_at_call 48)
    refine qk (w4) ?_;refine(hx _ _ _ _ h4).mono ?_;rintro e w5 ⟨i5,b5,x5,A5,C5,rfl,N5,s5,T5,l5⟩;have E5:=E4.rst s5;obtain⟨k5,h5⟩:=qX.at h4 s5;have z5:=s5.2.2.1.size;have q5:=E5.hq.cell 4;have r5:=E5.hq.lt;have f5:=E5.hq.free 4;simp only[zR];have E5a:=(E5.alloc (.cells #[.string (bs x5.op),.string (bs x5.s),.int .i64 x5.n,.int .i64 x5.a,.slice A5 x5.l.length C5] 24)).alloc (.cells #[.string (bs x5.op),.string (bs x5.s),.int .i64 x5.n,.int .i64 x5.a,.slice A5 x5.l.length C5] 24);(have N5a:=(E4.row.apart N5 (by omega)).grow (((Below.refl _ w5).alloc (Nat.le_refl _) (.cells #[.string (bs x5.op),.string (bs x5.s),.int .i64 x5.n,.int .i64 x5.a,.slice A5 x5.l.length C5] 24)).alloc (by simp) (.cells #[.string (bs x5.op),.string (bs x5.s),.int .i64 x5.n,.int .i64 x5.a,.slice A5 x5.l.length C5] 24))))
  |((refine zf 58 rfl ?_)
    refine zG rfl _ _ rfl (w2.heap.size+1) [] _ rfl E5a.row (by simp;omega) (by decide) [x5] [.slice A5 x5.l.length C5] (by simp) (by simp) rfl (Q7 _ _ _) (GX N5a) (w5.heap.size+1) rfl (ze.new_at (by simp)) 1 rfl ?_;intro A6 C6 w6 R6 B6;have E6:=E5a.put R6 B6;have u6:=(E5a.hq.below B6 (by omega)).cell 4;have v6:=(E5a.hq.below B6 (by omega)).free 4;have y6:=(E5a.hq.below B6 (by omega)).lt;(obtain⟨k6,h6⟩:=E6.at hR))
  |((go_at_call 47)
    refine qk (w6.setCell ⟨w2.heap.size,4,none⟩ (.slice A6 1 C6)) ?_;refine(qC h6 [44]).mono ?_;rintro e w7 ⟨rfl,i7,b7,s7,t7,T7⟩;rw[jz hG (by decide)]at T7;have E7:=E6.rst s7;obtain⟨k7,h7⟩:=qX.at h6 s7;have z7:=s7.2.2.1.size;have q7:=E7.hq.cell 4;have r7:=E7.hq.lt;(have f7:=E7.hq.free 4))
  |((go_at_call 79)
    refine qk (w7) ?_;refine(JR h7 (zC d)).mono ?_;rintro e w8 ⟨i8,b8,x8,A8,C8,rfl,N8,s8,T8,l8⟩;have E8:=E7.rst s8;obtain⟨k8,h8⟩:=qX.at h7 s8;have z8:=s8.2.2.1.size;have q8:=E8.hq.cell 4;have r8:=E8.hq.lt;have f8:=E8.hq.free 4;simp only[zR];have E8a:=(E8.alloc (.cells #[.string (bs x8.op),.string (bs x8.s),.int .i64 x8.n,.int .i64 x8.a,.slice A8 x8.l.length C8] 24)).alloc (.cells #[.string (bs x8.op),.string (bs x8.s),.int .i64 x8.n,.int .i64 x8.a,.slice A8 x8.l.length C8] 24);(have N8a:=(E7.row.apart N8 (by omega)).grow (((Below.refl _ w8).alloc (Nat.le_refl _) (.cells #[.string (bs x8.op),.string (bs x8.s),.int .i64 x8.n,.int .i64 x8.a,.slice A8 x8.l.length C8] 24)).alloc (by simp) (.cells #[.string (bs x8.op),.string (bs x8.s),.int .i64 x8.n,.int .i64 x8.a,.slice A8 x8.l.length C8] 24))))
  |((refine zf 131 rfl ?_)
    refine zG rfl _ _ rfl (w2.heap.size+1) [x5] _ rfl E8a.row (by simp;omega) (by simp) [x8] [.slice A8 x8.l.length C8] (by simp) (by simp) rfl (Q7 _ _ _) (GX N8a) (w8.heap.size+1) rfl (ze.new_at (by simp)) 2 rfl ?_;intro A9 C9 w9 R9 B9;have E9:=E8a.put R9 B9;have u9:=(E8a.hq.below B9 (by omega)).cell 4;have v9:=(E8a.hq.below B9 (by omega)).free 4;have y9:=(E8a.hq.below B9 (by omega)).lt;(obtain⟨k9,h9⟩:=E9.at hR))
  |((go_at_call 47)
    refine qk (w9.setCell ⟨w2.heap.size,4,none⟩ (.slice A9 2 C9)) ?_;refine(qC h9 [41]).mono ?_;rintro e w10 ⟨rfl,i10,b10,s10,t10,T10⟩;rw[jz hG (by decide)]at T10;have E10:=E9.rst s10;obtain⟨k10,h10⟩:=qX.at h9 s10;have z10:=s10.2.2.1.size;have q10:=E10.hq.cell 4;have r10:=E10.hq.lt;have f10:=E10.hq.free 4;have p10:=E10.hp.lt;have ca0:=E10.hp.cell 0;have ca1:=E10.hp.cell 1;have ca2:=E10.hp.cell 2;have ca3:=E10.hp.cell 3;have ca4:=E10.hp.cell 4;have fa0:=E10.hp.free 0;have fa1:=E10.hp.free 1;have fa2:=E10.hp.free 2;have fa3:=E10.hp.free 3;have fa4:=E10.hp.free 4;have cb0:=E10.hq.cell 0;have cb1:=E10.hq.cell 1;have cb2:=E10.hq.cell 2;have cb3:=E10.hq.cell 3;(have cb4:=E10.hq.cell 4))
  )
 refine zY rfl rfl (E10.hp.set5 _ _ _ _ _) rfl (fin _ _ ?_);refine⟨i10,b10,.mk jV [] 0 (at_:Nat) [x5,x8],A9,C9,rfl,?_,qX.set5 E10.st (Nat.le_refl _) hlt _ _ _ _ _,(ZD rfl T4 (YQ (ks:= .na) T5 T7 T8) T10).map (λl=>Nd.mk jV [] 0 (at_:Nat) l),Nat.le_of_ble_eq_true rfl⟩;exact(E10.row.done.mono λg hg=>(by omega:w.heap.size≤g∧g≠w.heap.size)).set5 (λg hg=>hg.2) _ _ _ _ _ |>.mono λg hg=>hg.1
theorem Yk{bad:Int}{ts:zo}{i:Nat}(l:List (List UInt8))(hb:bad≠0):vj l (vr bad ts i)= []:=by
 refine Qh (λj hj=>?_);unfold vr;rw[decide_eq_false hb];rfl
theorem zae{w W:World}{rb:Nat}{A:Option Addr}{C:Nat}{ts:zo}{i i' en:Nat}{bad bad':Int}{a:Act}{P:jk Nd}{fn:Func}{s:Nat}(hr:fn.results= #[.cell s 24])(hlt:rb<w.heap.size)(hs:qX (w.alloc (.cells #[.string ⟨#[]⟩,.string ⟨#[]⟩,.int .i64 0,.int .i64 0,.slice none 0 0] 24)) rb A C ts i en W i' bad')(hT:zX bad (P en (ts.drop i)) ts (Nd.mk [] [] 0 0 []) i' bad')(ha:a.tmps[s]?.getD undef= .pointer (some ⟨w.heap.size,0,none⟩))(hd:a.defers= []):bodyPost Tryz.prog fn (qj w rb A C ts i en bad P) .ret a (ZB W w.heap.size (.string ⟨#[]⟩) (.string ⟨#[]⟩) (.int .i64 0) (.int .i64 0) (.slice none 0 0)):=by
 have hN:=ze.new w 24 #[.string ⟨#[]⟩,.string ⟨#[]⟩,.int .i64 0,.int .i64 0,.slice none 0 0];have hN1:ze W w.heap.size 24 #[.string ⟨#[]⟩,.string ⟨#[]⟩,.int .i64 0,.int .i64 0,.slice none 0 0]:=hN.kp hs.2.2.1 (by omega);refine zY hr ha (hN1.set5 _ _ _ _ _) hd ?_;exact⟨i',bad',.mk [] [] 0 0 [],none,0,rfl,jB.nil _ _,qX.set5 hs.left (Nat.le_refl _) hlt _ _ _ _ _,hT,Nat.zero_le _⟩
theorem fd{w:World}{rb:Nat}{A:Option Addr}{C:Nat}{ts:zo}{i en:Nat}{bad k:Int}(h:zF w rb A C ts i en bad k)(d N:Nat)(hN:N≤12)(hb:bad≠0):Calls Tryz.prog 48 #[.pointer (some ⟨rb,0,none⟩),.int .i64 (N:Nat)] w (qj w rb A C ts i en bad (zC d)):=by
 have hlt:=h.has.lt;have h0:=h.kp (zd w (.cells #[.string ⟨#[]⟩,.string ⟨#[]⟩,.int .i64 0,.int .i64 0,.slice none 0 0] 24));have hN0:=ze.new w 24 #[.string ⟨#[]⟩,.string ⟨#[]⟩,.int .i64 0,.int .i64 0,.slice none 0 0];have ho:=Qb h0;rw[Yk _ hb]at ho;have hd0:decide (bad=0)=false:=decide_eq_false hb;have hd1:(bad==0)=false:=by simpa using hb
 have hd2:(bad != 0)=true:=by rw[bne,hd1];rfl
 have hR:=h;go_enter Tryz.func48,Tryz.ntmps48
 go_wp2_with (first
  |((go_at_call 77)
    refine ho.mono ?_;rintro e w1 ⟨rfl,hb1⟩;have h1:=h0.kp hb1;have c1:=h1.has.cell 3;have l1:=h1.has.lt;simp only[jg,jd,jf]at c1;have hN1:=hN0.below hb1 hN0.lt;have n1:=hN1.lt;have a0:=hN1.cell 0;have b0:=hN1.free 0;have a1:=hN1.cell 1;have b1:=hN1.free 1;have a2:=hN1.cell 2;have b2:=hN1.free 2;have a3:=hN1.cell 3;have b3:=hN1.free 3;have a4:=hN1.cell 4;(have b4:=hN1.free 4)))
 exact zae rfl hlt ((qX.refl h0).below hb1 (Nat.le_refl _) h0.has.lt) (zX.bad hb hb _ _ _ _) rfl rfl
theorem rex_deep'{w:World}{rb:Nat}{A:Option Addr}{C:Nat}{ts:zo}{i en:Nat}{bad k:Int}(h:zF w rb A C ts i en bad k):Calls Tryz.prog 48 #[.pointer (some ⟨rb,0,none⟩),.int .i64 13] w (qj w rb A C ts i en bad (zC 0)):=by
 have hlt:=h.has.lt;have h0:=h.kp (zd w (.cells #[.string ⟨#[]⟩,.string ⟨#[]⟩,.int .i64 0,.int .i64 0,.slice none 0 0] 24));have hN0:=ze.new w 24 #[.string ⟨#[]⟩,.string ⟨#[]⟩,.int .i64 0,.int .i64 0,.slice none 0 0];have hF:=QP h0 112 (by decide);have hR:=h;go_enter Tryz.func48,Tryz.ntmps48
 go_wp2_with (first
  |((go_at_call 44)
    refine hF.mono ?_;rintro e w1 ⟨rfl,b1,k1,hb1,h1,hk1⟩;have ho:=Qb h1;rw[Yk _ hb1]at ho;have hd0:decide (b1=0)=false:=decide_eq_false hb1;(have hd1:(b1==0)=false:=by simpa using hb1);(have hd2:(b1 != 0)=true:=by rw[bne,hd1];rfl))
  |((go_at_call 77)
    refine ho.mono ?_;rintro e w2 ⟨rfl,hb2⟩;have h2:=h1.kp hb2;have c1:=h2.has.cell 3;have l1:=h2.has.lt;simp only[jg,jd,jf]at c1;have hN1:=(hN0.kp hk1 (by omega)).below hb2 (hN0.kp hk1 (by omega)).lt;have n1:=hN1.lt;have a0:=hN1.cell 0;have b0:=hN1.free 0;have a1:=hN1.cell 1;have b1:=hN1.free 1;have a2:=hN1.cell 2;have b2:=hN1.free 2;have a3:=hN1.cell 3;have b3:=hN1.free 3;have a4:=hN1.cell 4;(have b4:=hN1.free 4)))
 exact zae rfl hlt ((qX.of (Nat.le_refl _) hk1 h1).below hb2 hk1.size h0.has.lt) (zX.err (e:=(112,yU en (ts.drop i))) rfl hb1 _ _ _) rfl rfl
theorem rex_use'{w:World}{rb:Nat}{A:Option Addr}{C:Nat}{ts:zo}{i en:Nat}{k:Int}(h:zF w rb A C ts i en 0 k)(d N:Nat)(hN:N≤12)(hf:vj ZC (vr 0 ts i)= [])(hi:∀hi:i<ts.length,ts[i].1.kind=0→(zr ts[i].1.s).1.length=0):Calls Tryz.prog 48 #[.pointer (some ⟨rb,0,none⟩),.int .i64 (N:Nat)] w (qj w rb A C ts i en 0 (zC (d+1))):=by
 have hpx:=zaN (d:=d) (en:=en) hi;have hlt:=h.has.lt;have h0:=h.kp (zd w (.cells #[.string ⟨#[]⟩,.string ⟨#[]⟩,.int .i64 0,.int .i64 0,.slice none 0 0] 24));have hN0:=ze.new w 24 #[.string ⟨#[]⟩,.string ⟨#[]⟩,.int .i64 0,.int .i64 0,.slice none 0 0];have ho:=Qb h0;rw[hf,show bs []=⟨#[]⟩from rfl]at ho;have fin:∀(e:Ending) (w':World),qj w rb A C ts i en 0 (λ_ _=>zC (d+1) en (ts.drop i)) e w'→qj w rb A C ts i en 0 (zC (d+1)) e w':=λe w' h=>h
 rw[hpx]at fin;clear hpx hi hf;have hR:=h;go_enter Tryz.func48,Tryz.ntmps48
 go_wp2_with (first
  |((go_at_call 77)
    refine ho.mono ?_;rintro e w1 ⟨rfl,hb1⟩;have h1:=h0.kp hb1;have c1:=h1.has.cell 3;have l1:=h1.has.lt;simp only[jg,jd,jf]at c1;(have hnm:=rname_c' h1))
  |((go_at_call 45)
    refine hnm.mono ?_;rintro e w2 ⟨i2,bb2,⟨⟨tk,tss,tn⟩,ta⟩,rfl,s2,T2,hx2⟩;have hN1:=(hN0.below hb1 hN0.lt).kp s2.2.2.1 (by omega);have n1:=hN1.lt;(have m1:w.heap.size≠w2.heap.size:=by omega);have a0:=hN1.cell 0;have b0:=hN1.free 0;have a1:=hN1.cell 1;have b1:=hN1.free 1;have a2:=hN1.cell 2;have b2:=hN1.free 2;have a3:=hN1.cell 3;have b3:=hN1.free 3;have a4:=hN1.cell 4;have b4:=hN1.free 4;(simp only[qt])))
 refine zY rfl rfl ((hN1.set5 _ _ _ _ _).alloc _) rfl (fin _ _ ?_);have hs:qX w rb A C ts i en w2 i2 bb2:=(((qX.refl h0).below hb1 (Nat.le_refl _) h0.has.lt).left).trans s2;exact⟨i2,bb2,.mk j8 tss 0 (ta:Nat) [],none,0,rfl,jB.nil _ _,(qX.set5 hs (Nat.le_refl _) hlt _ _ _ _ _).alloc _,T2.map (λt:Tk×Nat=>Nd.mk j8 t.1.s 0 ((t.2:Nat):Int) []),Nat.zero_le _⟩
theorem dC{rb:Nat}{A:Option Addr}{C:Nat}{ts:zo}{en:Nat}(hG:yB ts)(d:Nat):∀(N:Nat) (w:World) (i:Nat) (bad k:Int),N+d=13→zF w rb A C ts i en bad k→Calls Tryz.prog 48 #[.pointer (some ⟨rb,0,none⟩),.int .i64 (N:Nat)] w (qj w rb A C ts i en bad (zC d)):=by
 induction d with
 |zero =>
  intro N w i bad k hNd h;obtain rfl:N=13:=by omega
  exact rex_deep' h
 |succ d ih =>
  intro N w i bad k hNd h;by_cases hb:bad=0
  ·subst hb
   have hx:∀(w:World) (i:Nat) (bad k:Int),zF w rb A C ts i en bad k→Calls Tryz.prog 48 #[.pointer (some ⟨rb,0,none⟩),.int .i64 ((N:Int)+1)] w (qj w rb A C ts i en bad (zC d)):=by
    intro w i bad k h;have:=ih (N+1) w i bad k (by omega) h;rw[show(((N+1:Nat)):Int)=(N:Int)+1 by omega]at this;exact this
   by_cases hw:∃hi:i<ts.length,ts[i].1.kind=0∧ts[i].1.s ∈ ZC
   ·obtain⟨hi,hk,hm⟩:=hw
    simp only[ZC,List.mem_cons,List.not_mem_nil,or_false]at hm;rcases hm with e|e|e|e|e|e|e
    ·exact kL h hG d N (by omega) hi hk e hx
    ·exact Ur h hG d N (by omega) hi hk e hx
    ·exact Ue h hG d N (by omega) hi hk e hx
    ·exact Y5 h hG d N (by omega) hi hk e hx
    ·exact ga h hG d N (by omega) hi hk e hx
    ·exact VU h hG d N (by omega) hi hk e hx
    ·exact UL h hG d N (by omega) hi hk e hx
   ·refine rex_use' h d N (by omega) (Qh λj hj=>?_) ?_
    ·cases hc:vr 0 ts i ZC[j]with
     |false=>rfl
     |true =>
      obtain⟨_,hi,hp⟩:=Zb hc;have hmem:=List.getElem_mem hj
      obtain⟨e1,e2⟩:=Y4 hG hi (by
       intro c e;rw[e]at hmem;simp only[ZC,List.mem_cons,List.not_mem_nil,or_false]at hmem
       rcases hmem with q|q|q|q|q|q|q<;>cases q) hp
      exact absurd ⟨hi,e1,by rw[e2];exact hmem⟩ hw
    ·intro hi hk
     have hm:ts[i].1.s ∉ ZC:=λe=>hw ⟨hi,hk,e⟩
     simp only[ZC,List.mem_cons,List.not_mem_nil,or_false,not_or]at hm;obtain⟨m1,m2,m3,m4,m5,m6,m7⟩:=hm;unfold zr;rw[if_neg m1,if_neg (by simp[m2,m3]),if_neg m4,if_neg (by simp[m5,m6,m7])];rfl
  ·exact fd h (d+1) N (by omega) hb
end
section
open Go.ChangeShapes Go.WideShapes Go.ChangeAt Go.RowKit
structure Qj (w0:World) (rb:Nat) (A:Option Addr) (C:Nat) (ts:zo) (i0 en:Nat) (q:Nat) (cs:Array Value) (wr:World) (i':Nat) (bad':Int):Prop where
 st:qX w0 rb A C ts i0 en wr i' bad'
 hp:ze wr w0.heap.size 24 #[.string ⟨#[]⟩,.string ⟨#[]⟩,.int .i64 0,.int .i64 0,.slice none 0 0]
 hq:ze wr q 24 cs
 lt:rb<w0.heap.size
 pq:w0.heap.size<q
section
variable {w0:World} {rb:Nat} {A:Option Addr} {C:Nat} {ts:zo} {i0 en q:Nat} {cs:Array Value} {wr:World} {i':Nat} {bad':Int}
theorem Qj.rst(h:Qj w0 rb A C ts i0 en q cs wr i' bad'){w':World}{i2:Nat}{b2:Int}(s:qX wr rb A C ts i' en w' i2 b2):Qj w0 rb A C ts i0 en q cs w' i2 b2:=by
 have hlt:=h.lt;have hpq:=h.pq;exact⟨h.st.trans s,h.hp.kp s.2.2.1 (by omega),h.hq.kp s.2.2.1 (by omega),hlt,hpq⟩
theorem Qj.alloc(h:Qj w0 rb A C ts i0 en q cs wr i' bad')(o:Obj):Qj w0 rb A C ts i0 en q cs (wr.alloc o) i' bad':=⟨h.st.alloc o,h.hp.alloc o,h.hq.alloc o,h.lt,h.pq⟩
theorem Qj.drewN(h:Qj w0 rb A C ts i0 en q cs wr i' bad')(n:Nat):Qj w0 rb A C ts i0 en q cs (wr.drewN n) i' bad':=⟨h.st.drewN n,h.hp.drewN n,h.hq.drewN n,h.lt,h.pq⟩
theorem Qj.put(h:Qj w0 rb A C ts i0 en q cs wr i' bad')(j:Nat)(v:Value)(cs':Array Value)(e:cs.setIfInBounds j v=cs'):Qj w0 rb A C ts i0 en q cs' (wr.setCell ⟨q,j,none⟩ v) i' bad':=by
 have hpq:=h.pq;subst e;exact⟨h.st.new (q:=⟨q,j,none⟩) (by show _≤q;omega) h.lt v,h.hp.other (by show w0.heap.size≠q;omega) v,h.hq.putP j v,h.lt,hpq⟩
theorem Qj.step(h:Qj w0 rb A C ts i0 en q cs wr i' bad')(hi:i'<ts.length):Qj w0 rb A C ts i0 en q cs (wr.setCell ⟨rb,1,none⟩ (.int .i64 ((i':Int)+1))) (i'+1) bad':=by
 obtain⟨k',hH⟩:=h.st.2.2.2
 have hs:qX wr rb A C ts i' en (wr.setCell ⟨rb,1,none⟩ (.int .i64 ((i':Int)+1))) (i'+1) bad':=⟨by omega,by omega,(Kp.refl rb wr).setP 1 _,k',by have:=hH.putP 1 (.int .i64 ((i':Int)+1));simpa using this⟩
 exact h.rst hs
theorem Qj.at(h:Qj w0 rb A C ts i0 en q cs wr i' bad'){bad k:Int}(h0:zF w0 rb A C ts i0 en bad k):∃k',zF wr rb A C ts i' en bad' k':=qX.at h0 h.st
end
theorem xi{w w2:World}{rb:Nat}{A:Option Addr}{C:Nat}{ts:zo}{i en:Nat}{bad k:Int}{at_:Int}(h:zF w rb A C ts i en bad k)(hb2:Below (w.alloc (.cells #[.string ⟨#[]⟩,.string ⟨#[]⟩,.int .i64 0,.int .i64 0,.slice none 0 0] 24)).heap.size (w.alloc (.cells #[.string ⟨#[]⟩,.string ⟨#[]⟩,.int .i64 0,.int .i64 0,.slice none 0 0] 24)) w2)(hlt:rb<w.heap.size):
 Qj w rb A C ts i en w2.heap.size #[.string ⟨#[]⟩,.string ⟨#[]⟩,.int .i64 0,.int .i64 at_,.slice none 0 0] (w2.alloc (.cells #[.string ⟨#[]⟩,.string ⟨#[]⟩,.int .i64 0,.int .i64 at_,.slice none 0 0] 24)) i bad:=by
 have hN:=ze.new w 24 #[.string ⟨#[]⟩,.string ⟨#[]⟩,.int .i64 0,.int .i64 0,.slice none 0 0];have hN2:=hN.below hb2 hN.lt;have h0:=h.kp (zd w (.cells #[.string ⟨#[]⟩,.string ⟨#[]⟩,.int .i64 0,.int .i64 0,.slice none 0 0] 24));exact⟨(((qX.refl h0).below hb2 (Nat.le_refl _) h0.has.lt).left).alloc _,hN2.alloc _,ze.new _ _ _,hlt,hN2.lt⟩
theorem DP{p rb q B:Nat}{w8 w10:World}{v:Value}{o o':Obj}{x8:Nd}{A8:Option Addr}{C8:Nat}{x0 x1 x2 x3 x4:Value}(N8:jB w8 (λg=>B≤g) x8.l (.slice A8 x8.l.length C8))(H9:ze (((w8.setCell ⟨q,4,none⟩ v).alloc o).alloc o') (w8.heap.size+1) 24 #[.string (bs x8.op),.string (bs x8.s),.int .i64 x8.n,.int .i64 x8.a,.slice A8 x8.l.length C8])(hk:Kp rb (((w8.setCell ⟨q,4,none⟩ v).alloc o).alloc o') w10)(h1:rb<p)(h2:p<q)(h3:q<B)(h4:B≤w8.heap.size):jB (ZB w10 p x0 x1 x2 x3 x4) (λg=>p≤g) [x8] (.slice (some ⟨w8.heap.size+1,0,none⟩) 1 1):=by
 have n1:=N8.kp ((Kp.refl q w8).setP 4 v) (λg hg=>by omega);have n2:=n1.kp (p:=rb) (Kp.of (qv _ o o')) (λg hg=>by omega);have n3:=n2.kp hk (λg hg=>by omega);have n4:jB w10 (λg=>p≤g∧g≠p) x8.l (.slice A8 x8.l.length C8):=n3.mono λg hg=>by omega
 have n5:=jB.single (P:=λg=>p≤g∧g≠p) (H9.kp hk (by omega)) (by omega) n4;exact(n5.set5 (λg hg=>hg.2) _ _ _ _ _).mono λg hg=>hg.1
theorem Yq{en:Nat}{ts:zo}{i:Nat}{o:List UInt8}(hi:i<ts.length)(hk:ts[i].1.kind=0)(hs:ts[i].1.s=o)(ho:o ∈ jt):qi en (ts.drop i)=(zt (zn jl) λu=>zt (qV o) λr=>zt (zn (qM [59])) λ_=>qT (.mk o u.1.s r.1 ts[i].2 r.2)) en (ts.drop (i+1)):=by
 have hw:jD jt ts[i].1=true:=by
  unfold jD;rw[hk,hs];simp only[beq_self_eq_true,Bool.true_and,List.any_eq_true,beq_iff_eq];exact⟨o,ho,rfl⟩
 show zt (zn (jD jt)) _ en (ts.drop i)=_;rw[List.drop_eq_getElem_cons hi];simp only[zt,zn];rw[if_pos hw];simp only[hs]
theorem zbj{en:Nat}{ts:zo}{i:Nat}(h:∀hi:i<ts.length,ts[i].1.kind=0→ts[i].1.s ∉ jt):∃e,qi en (ts.drop i)= .error e:=by
 by_cases hi:i<ts.length
 ·refine⟨(111,ts[i].2),?_⟩
  have hw:jD jt ts[i].1=false:=by
   unfold jD;by_cases hk:ts[i].1.kind=0
   ·have:=h hi hk
    cases ha:jt.any (λy=>ts[i].1.s==y)with
    |false=>simp
    |true =>
     simp only[List.any_eq_true,beq_iff_eq]at ha;obtain⟨y,hy,e⟩:=ha;rw[e]at this;exact absurd hy this
   ·have h0:(ts[i].1.kind==0)=false:=by rw[beq_eq_false_iff_ne];exact hk
    rw[h0];rfl
  show zt (zn (jD jt)) _ en (ts.drop i)=_;rw[List.drop_eq_getElem_cons hi];simp only[zt,zn];rw[if_neg (by rw[hw];decide)]
 ·refine⟨(111,en),?_⟩
  rw[List.drop_eq_nil_of_le (by omega)];rfl
end
section
open Go.ChangeShapes Go.WideShapes Go.ChangeAt Go.RowKit
theorem Us{w:World}{rb:Nat}{A:Option Addr}{C:Nat}{ts:zo}{i en:Nat}{k:Int}(h:zF w rb A C ts i en 0 k)(hG:yB ts)(hi:i<ts.length)(hk:ts[i].1.kind=0)(hs:ts[i].1.s=zc):Calls Tryz.prog 22 #[.pointer (some ⟨rb,0,none⟩)] w (qj w rb A C ts i en 0 qi):=by
 have hpx:=Yq (en:=en) hi hk hs (by decide);have hlt:=h.has.lt;have hf:=h.few;have hR:=h
 have hB:∀s,vr 0 ts i s=(zc==s):=by
  intro s;unfold vr;rw[qu hi];unfold yA;rw[hk,hs];rfl
 have hIs:∀(W:World) (k:Int) (s:List UInt8) (b:Bool),zF W rb A C ts i en 0 k→(zc==s)=b→Calls Tryz.prog 43 #[.pointer (some ⟨rb,0,none⟩),.string (bs s)] W λe w'=>e= .returned (.bool b)∧∃q,w'=W.drewN q:=by
  intro W k s b h hb;have:=j7 h s;rw[hB,hb]at this;exact this
 have hpl:∀W k,zF W rb A C ts i en 0 k→Calls Tryz.prog 42 #[.pointer (some ⟨rb,0,none⟩)] W λe w'=>e= .returned (.int .i64 (ts[i].2:Nat))∧Below W.heap.size W w':=by
  intro W k h;refine(jv h).mono ?_;rintro e w' ⟨rfl,q,rfl⟩;rw[jL hi];exact⟨rfl,jG (Below.refl _ _) _⟩
 have h0:=h.kp (zd w (.cells #[.string ⟨#[]⟩,.string ⟨#[]⟩,.int .i64 0,.int .i64 0,.slice none 0 0] 24));have fin:∀(e:Ending) (w':World),qj w rb A C ts i en 0 (λ_ _=>qi en (ts.drop i)) e w'→qj w rb A C ts i en 0 qi e w':=λe w' h=>h
 rw[hpx]at fin;generalize ts[i].2=at_ at hpl fin;clear hpx hs hk hB;have hi5:(i:Int)≤500:=by omega
 go_enter Tryz.func22,Tryz.ntmps22
 go_wp2_with (first
  |((go_at_call 42)
    refine(hpl _ _ h0).mono ?_;rintro e w2 ⟨rfl,hb2⟩;have S3:=(xi (at_:=((at_:Nat):Int)) hR hb2 hlt).alloc (.cells #[.string ⟨#[100,101,118,105,99,101]⟩,.string ⟨#[106,111,117,114,110,97,108]⟩,.string ⟨#[107,101,121]⟩,.string ⟨#[114,111,111,116]⟩,.string ⟨#[118,111,108,117,109,101]⟩,.string ⟨#[101,120,112,111,114,116]⟩] 9);have pq:=S3.pq;(have G3:ze ((w2.alloc (.cells #[.string ⟨#[]⟩,.string ⟨#[]⟩,.int .i64 0,.int .i64 (at_:Nat),.slice none 0 0] 24)).alloc (.cells #[.string ⟨#[100,101,118,105,99,101]⟩,.string ⟨#[106,111,117,114,110,97,108]⟩,.string ⟨#[107,101,121]⟩,.string ⟨#[114,111,111,116]⟩,.string ⟨#[118,111,108,117,109,101]⟩,.string ⟨#[101,120,112,111,114,116]⟩] 9)) (w2.heap.size+1) 9 #[.string ⟨#[100,101,118,105,99,101]⟩,.string ⟨#[106,111,117,114,110,97,108]⟩,.string ⟨#[107,101,121]⟩,.string ⟨#[114,111,111,116]⟩,.string ⟨#[118,111,108,117,109,101]⟩,.string ⟨#[101,120,112,111,114,116]⟩]:=ze.new_at (by simp))))
 go_loopw [5] (λz wr=>∃k:Nat,z= .int .i64 (k:Nat)∧ze wr (w2.heap.size+1) 9 #[.string ⟨#[100,101,118,105,99,101]⟩,.string ⟨#[106,111,117,114,110,97,108]⟩,.string ⟨#[107,101,121]⟩,.string ⟨#[114,111,111,116]⟩,.string ⟨#[118,111,108,117,109,101]⟩,.string ⟨#[101,120,112,111,114,116]⟩]∧((k≤0∧Qj w rb A C ts i en w2.heap.size #[.string ⟨#[]⟩,.string ⟨#[]⟩,.int .i64 0,.int .i64 (at_:Nat),.slice none 0 0] wr i 0)∨(k=1∧Qj w rb A C ts i en w2.heap.size #[.string ⟨#[100,101,118,105,99,101]⟩,.string ⟨#[]⟩,.int .i64 0,.int .i64 (at_:Nat),.slice none 0 0] wr i 0))) (λz _=>7-(intOf z).toNat)
 case atStart=>exact⟨0,rfl,G3,.inl ⟨Nat.zero_le _,S3⟩⟩
 case round =>
  obtain⟨k,rfl,G4,hS⟩:=hrel;have lG4:=G4.lt;rcases hS with⟨hk,S4⟩|⟨rfl,S4⟩
  ·obtain⟨k4,h4⟩:=S4.at hR
   have q0:=S4.hq.cell 0;have f0:=S4.hq.free 0;have lq:=S4.hq.lt;obtain rfl:k=0:=by omega
   have g0:=G4.cell 0;have hI:=hIs wr k4 zc true h4 rfl;rw[show bs zc=⟨#[100,101,118,105,99,101]⟩from rfl]at hI
   go_wp2_with (first
    |((go_at_call 43)
      refine hI.mono ?_;(rintro e w5 ⟨rfl,q5,rfl⟩)))
   go_roundw
   case rel=>exact⟨1,rfl,(G4.drewN q5).other (by show w2.heap.size+1≠w2.heap.size;omega) _,.inr ⟨rfl,(S4.drewN q5).put 0 _ _ rfl⟩⟩
   case measure=>simp[intOf]
  ·obtain⟨k4,h4⟩:=S4.at hR
   have q0:=S4.hq.cell 0;have lq:=S4.hq.lt;have S5:=S4.step hi;obtain⟨k5,h5⟩:=S5.at hR;have c4:=h4.has.cell 1;have d4:=h4.has.free 1;have l4:=h4.has.lt;simp only[jg,jd,jf]at c4
   go_wp2_with (first
    |((go_at_call 45)
      refine qk (wr.setCell ⟨rb,1,none⟩ (.int .i64 ((i:Int)+1))) ?_;refine(rname_c' h5).mono ?_;rintro e w5 ⟨i5,b5,⟨⟨tk5,ts5,tn5⟩,ta5⟩,rfl,s5,T5,x5⟩;have S6:=((S5.rst s5).put 1 (.string (bs ts5)) #[.string ⟨#[100,101,118,105,99,101]⟩,.string (bs ts5),.int .i64 0,.int .i64 (at_:Nat),.slice none 0 0] rfl).alloc (.cells #[.int .i64 (tk5:Nat),.string (bs ts5),.int .i64 (tn5:Nat),.int .i64 (ta5:Nat)] 100);obtain⟨k6,h6⟩:=S6.at hR;have q5:=(S5.rst s5).hq.cell 0;have q51:=(S5.rst s5).hq.cell 1;have q52:=(S5.rst s5).hq.cell 2;have q54:=(S5.rst s5).hq.cell 4;have f51:=(S5.rst s5).hq.free 1;have f52:=(S5.rst s5).hq.free 2;have f54:=(S5.rst s5).hq.free 4;have l5:=(S5.rst s5).hq.lt;(have m5:w2.heap.size≠w5.heap.size:=by omega);(simp only[qt]))
    |((go_at_call 46)
      refine qk ((w5.setCell ⟨w2.heap.size,1,none⟩ (.string (bs ts5))).alloc (.cells #[.int .i64 (tk5:Nat),.string (bs ts5),.int .i64 (tn5:Nat),.int .i64 (ta5:Nat)] 100)) ?_;refine(xl h6 1).mono ?_;rintro e w7 ⟨i7,b7,⟨⟨tk7,ts7,tn7⟩,ta7⟩,rfl,s7,T7,x7⟩;have S8:=((S6.rst s7).put 2 (.int .i64 (tn7:Nat)) #[.string ⟨#[100,101,118,105,99,101]⟩,.string (bs ts5),.int .i64 (tn7:Nat),.int .i64 (at_:Nat),.slice none 0 0] rfl).alloc (.cells #[.int .i64 (tk7:Nat),.string (bs ts7),.int .i64 (tn7:Nat),.int .i64 (ta7:Nat)] 100);obtain⟨k8,h8⟩:=S8.at hR;have q72:=(S6.rst s7).hq.cell 2;have f72:=(S6.rst s7).hq.free 2;have l7:=(S6.rst s7).hq.lt;(have m7:w2.heap.size≠w7.heap.size:=by omega);(simp only[qt]))
    |((go_at_call 47)
      refine qk ((((w7.setCell ⟨w2.heap.size,2,none⟩ (.int .i64 (tn7:Nat)))).alloc (.cells #[.int .i64 (tk7:Nat),.string (bs ts7),.int .i64 (tn7:Nat),.int .i64 (ta7:Nat)] 100))) ?_;refine(qC h8 [59]).mono ?_;rintro e w9 ⟨rfl,i9,b9,s9,t9,T9⟩;rw[jz hG (by decide)]at T9;have S9:=S8.rst s9;have p9:=S9.hp.lt;have r9:=S9.hq.lt;have ca0:=S9.hp.cell 0;have ca1:=S9.hp.cell 1;have ca2:=S9.hp.cell 2;have ca3:=S9.hp.cell 3;have ca4:=S9.hp.cell 4;have fa0:=S9.hp.free 0;have fa1:=S9.hp.free 1;have fa2:=S9.hp.free 2;have fa3:=S9.hp.free 3;have fa4:=S9.hp.free 4;have cb0:=S9.hq.cell 0;have cb1:=S9.hq.cell 1;have cb2:=S9.hq.cell 2;have cb3:=S9.hq.cell 3;(have cb4:=S9.hq.cell 4))
    )
   refine zY rfl rfl (S9.hp.set5 _ _ _ _ _) rfl (fin _ _ ?_);refine⟨i9,b9,.mk zc ts5 (tn7:Nat) (at_:Nat) [],none,0,rfl,?_,qX.set5 S9.st (Nat.le_refl _) hlt _ _ _ _ _,T5.bind ((show zX b5 (qV zc en (ts.drop i5)) ts ((tn7:Int),[]) i7 b7 from T7.map (λt:Tk×Nat=>(((t.1.n:Nat):Int),([]:List Nd)))).bind (T9.map (λ_=>Nd.mk zc ts5 (tn7:Nat) (at_:Nat) []))),Nat.le_of_ble_eq_true rfl⟩;exact jB.nil _ _
theorem KE{w:World}{rb:Nat}{A:Option Addr}{C:Nat}{ts:zo}{i en:Nat}{k:Int}(h:zF w rb A C ts i en 0 k)(hG:yB ts)(hi:i<ts.length)(hk:ts[i].1.kind=0)(hs:ts[i].1.s=zg):Calls Tryz.prog 22 #[.pointer (some ⟨rb,0,none⟩)] w (qj w rb A C ts i en 0 qi):=by
 have hpx:=Yq (en:=en) hi hk hs (by decide);have hlt:=h.has.lt;have hf:=h.few;have hR:=h
 have hB:∀s,vr 0 ts i s=(zg==s):=by
  intro s;unfold vr;rw[qu hi];unfold yA;rw[hk,hs];rfl
 have hIs:∀(W:World) (k:Int) (s:List UInt8) (b:Bool),zF W rb A C ts i en 0 k→(zg==s)=b→Calls Tryz.prog 43 #[.pointer (some ⟨rb,0,none⟩),.string (bs s)] W λe w'=>e= .returned (.bool b)∧∃q,w'=W.drewN q:=by
  intro W k s b h hb;have:=j7 h s;rw[hB,hb]at this;exact this
 have hpl:∀W k,zF W rb A C ts i en 0 k→Calls Tryz.prog 42 #[.pointer (some ⟨rb,0,none⟩)] W λe w'=>e= .returned (.int .i64 (ts[i].2:Nat))∧Below W.heap.size W w':=by
  intro W k h;refine(jv h).mono ?_;rintro e w' ⟨rfl,q,rfl⟩;rw[jL hi];exact⟨rfl,jG (Below.refl _ _) _⟩
 have h0:=h.kp (zd w (.cells #[.string ⟨#[]⟩,.string ⟨#[]⟩,.int .i64 0,.int .i64 0,.slice none 0 0] 24));have fin:∀(e:Ending) (w':World),qj w rb A C ts i en 0 (λ_ _=>qi en (ts.drop i)) e w'→qj w rb A C ts i en 0 qi e w':=λe w' h=>h
 rw[hpx]at fin;generalize ts[i].2=at_ at hpl fin;clear hpx hs hk hB;have hi5:(i:Int)≤500:=by omega
 go_enter Tryz.func22,Tryz.ntmps22
 go_wp2_with (first
  |((go_at_call 42)
    refine(hpl _ _ h0).mono ?_;rintro e w2 ⟨rfl,hb2⟩;have S3:=(xi (at_:=((at_:Nat):Int)) hR hb2 hlt).alloc (.cells #[.string ⟨#[100,101,118,105,99,101]⟩,.string ⟨#[106,111,117,114,110,97,108]⟩,.string ⟨#[107,101,121]⟩,.string ⟨#[114,111,111,116]⟩,.string ⟨#[118,111,108,117,109,101]⟩,.string ⟨#[101,120,112,111,114,116]⟩] 9);have pq:=S3.pq;(have G3:ze ((w2.alloc (.cells #[.string ⟨#[]⟩,.string ⟨#[]⟩,.int .i64 0,.int .i64 (at_:Nat),.slice none 0 0] 24)).alloc (.cells #[.string ⟨#[100,101,118,105,99,101]⟩,.string ⟨#[106,111,117,114,110,97,108]⟩,.string ⟨#[107,101,121]⟩,.string ⟨#[114,111,111,116]⟩,.string ⟨#[118,111,108,117,109,101]⟩,.string ⟨#[101,120,112,111,114,116]⟩] 9)) (w2.heap.size+1) 9 #[.string ⟨#[100,101,118,105,99,101]⟩,.string ⟨#[106,111,117,114,110,97,108]⟩,.string ⟨#[107,101,121]⟩,.string ⟨#[114,111,111,116]⟩,.string ⟨#[118,111,108,117,109,101]⟩,.string ⟨#[101,120,112,111,114,116]⟩]:=ze.new_at (by simp))))
 go_loopw [5] (λz wr=>∃k:Nat,z= .int .i64 (k:Nat)∧ze wr (w2.heap.size+1) 9 #[.string ⟨#[100,101,118,105,99,101]⟩,.string ⟨#[106,111,117,114,110,97,108]⟩,.string ⟨#[107,101,121]⟩,.string ⟨#[114,111,111,116]⟩,.string ⟨#[118,111,108,117,109,101]⟩,.string ⟨#[101,120,112,111,114,116]⟩]∧((k≤1∧Qj w rb A C ts i en w2.heap.size #[.string ⟨#[]⟩,.string ⟨#[]⟩,.int .i64 0,.int .i64 (at_:Nat),.slice none 0 0] wr i 0)∨(k=2∧Qj w rb A C ts i en w2.heap.size #[.string ⟨#[106,111,117,114,110,97,108]⟩,.string ⟨#[]⟩,.int .i64 0,.int .i64 (at_:Nat),.slice none 0 0] wr i 0))) (λz _=>7-(intOf z).toNat)
 case atStart=>exact⟨0,rfl,G3,.inl ⟨Nat.zero_le _,S3⟩⟩
 case round =>
  obtain⟨k,rfl,G4,hS⟩:=hrel;have lG4:=G4.lt;rcases hS with⟨hk,S4⟩|⟨rfl,S4⟩
  ·obtain⟨k4,h4⟩:=S4.at hR
   have q0:=S4.hq.cell 0;have f0:=S4.hq.free 0;have lq:=S4.hq.lt;rcases(by omega:k=0∨k=1)with rfl|rfl
   ·have g0:=G4.cell 0
    have hI:=hIs wr k4 zc false h4 rfl;rw[show bs zc=⟨#[100,101,118,105,99,101]⟩from rfl]at hI
    go_wp2_with (first
     |((go_at_call 43)
       refine hI.mono ?_;(rintro e w5 ⟨rfl,q5,rfl⟩)))
    go_roundw
    case rel=>exact⟨1,rfl,G4.drewN q5,.inl ⟨by omega,S4.drewN q5⟩⟩
    case measure=>simp[intOf]
   ·have g0:=G4.cell 1
    have hI:=hIs wr k4 zg true h4 rfl;rw[show bs zg=⟨#[106,111,117,114,110,97,108]⟩from rfl]at hI
    go_wp2_with (first
     |((go_at_call 43)
       refine hI.mono ?_;(rintro e w5 ⟨rfl,q5,rfl⟩)))
    go_roundw
    case rel=>exact⟨2,rfl,(G4.drewN q5).other (by show w2.heap.size+1≠w2.heap.size;omega) _,.inr ⟨rfl,(S4.drewN q5).put 0 _ _ rfl⟩⟩
    case measure=>simp[intOf]
  ·obtain⟨k4,h4⟩:=S4.at hR
   have q0:=S4.hq.cell 0;have lq:=S4.hq.lt;have S5:=S4.step hi;obtain⟨k5,h5⟩:=S5.at hR;have c4:=h4.has.cell 1;have d4:=h4.has.free 1;have l4:=h4.has.lt;simp only[jg,jd,jf]at c4
   go_wp2_with (first
    |((go_at_call 45)
      refine qk (wr.setCell ⟨rb,1,none⟩ (.int .i64 ((i:Int)+1))) ?_;refine(rname_c' h5).mono ?_;rintro e w5 ⟨i5,b5,⟨⟨tk5,ts5,tn5⟩,ta5⟩,rfl,s5,T5,x5⟩;have S6:=((S5.rst s5).put 1 (.string (bs ts5)) #[.string ⟨#[106,111,117,114,110,97,108]⟩,.string (bs ts5),.int .i64 0,.int .i64 (at_:Nat),.slice none 0 0] rfl).alloc (.cells #[.int .i64 (tk5:Nat),.string (bs ts5),.int .i64 (tn5:Nat),.int .i64 (ta5:Nat)] 100);obtain⟨k6,h6⟩:=S6.at hR;have q5:=(S5.rst s5).hq.cell 0;have q51:=(S5.rst s5).hq.cell 1;have q52:=(S5.rst s5).hq.cell 2;have q54:=(S5.rst s5).hq.cell 4;have f51:=(S5.rst s5).hq.free 1;have f52:=(S5.rst s5).hq.free 2;have f54:=(S5.rst s5).hq.free 4;have l5:=(S5.rst s5).hq.lt;(have m5:w2.heap.size≠w5.heap.size:=by omega);(simp only[qt]))
    |((go_at_call 46)
      refine qk ((w5.setCell ⟨w2.heap.size,1,none⟩ (.string (bs ts5))).alloc (.cells #[.int .i64 (tk5:Nat),.string (bs ts5),.int .i64 (tn5:Nat),.int .i64 (ta5:Nat)] 100)) ?_;refine(xl h6 1).mono ?_;rintro e w7 ⟨i7,b7,⟨⟨tk7,ts7,tn7⟩,ta7⟩,rfl,s7,T7,x7⟩;have S8:=((S6.rst s7).put 2 (.int .i64 (tn7:Nat)) #[.string ⟨#[106,111,117,114,110,97,108]⟩,.string (bs ts5),.int .i64 (tn7:Nat),.int .i64 (at_:Nat),.slice none 0 0] rfl).alloc (.cells #[.int .i64 (tk7:Nat),.string (bs ts7),.int .i64 (tn7:Nat),.int .i64 (ta7:Nat)] 100);obtain⟨k8,h8⟩:=S8.at hR;have q72:=(S6.rst s7).hq.cell 2;have f72:=(S6.rst s7).hq.free 2;have l7:=(S6.rst s7).hq.lt;(have m7:w2.heap.size≠w7.heap.size:=by omega);(simp only[qt]))
    |((go_at_call 47)
      refine qk ((((w7.setCell ⟨w2.heap.size,2,none⟩ (.int .i64 (tn7:Nat)))).alloc (.cells #[.int .i64 (tk7:Nat),.string (bs ts7),.int .i64 (tn7:Nat),.int .i64 (ta7:Nat)] 100))) ?_;refine(qC h8 [59]).mono ?_;rintro e w9 ⟨rfl,i9,b9,s9,t9,T9⟩;rw[jz hG (by decide)]at T9;have S9:=S8.rst s9;have p9:=S9.hp.lt;have r9:=S9.hq.lt;have ca0:=S9.hp.cell 0;have ca1:=S9.hp.cell 1;have ca2:=S9.hp.cell 2;have ca3:=S9.hp.cell 3;have ca4:=S9.hp.cell 4;have fa0:=S9.hp.free 0;have fa1:=S9.hp.free 1;have fa2:=S9.hp.free 2;have fa3:=S9.hp.free 3;have fa4:=S9.hp.free 4;have cb0:=S9.hq.cell 0;have cb1:=S9.hq.cell 1;have cb2:=S9.hq.cell 2;have cb3:=S9.hq.cell 3;(have cb4:=S9.hq.cell 4))
    )
   refine zY rfl rfl (S9.hp.set5 _ _ _ _ _) rfl (fin _ _ ?_);refine⟨i9,b9,.mk zg ts5 (tn7:Nat) (at_:Nat) [],none,0,rfl,?_,qX.set5 S9.st (Nat.le_refl _) hlt _ _ _ _ _,T5.bind ((show zX b5 (qV zg en (ts.drop i5)) ts ((tn7:Int),[]) i7 b7 from T7.map (λt:Tk×Nat=>(((t.1.n:Nat):Int),([]:List Nd)))).bind (T9.map (λ_=>Nd.mk zg ts5 (tn7:Nat) (at_:Nat) []))),Nat.le_of_ble_eq_true rfl⟩;exact jB.nil _ _
theorem Hk{w:World}{rb:Nat}{A:Option Addr}{C:Nat}{ts:zo}{i en:Nat}{k:Int}(h:zF w rb A C ts i en 0 k)(hG:yB ts)(hi:i<ts.length)(hk:ts[i].1.kind=0)(hs:ts[i].1.s=zT):Calls Tryz.prog 22 #[.pointer (some ⟨rb,0,none⟩)] w (qj w rb A C ts i en 0 qi):=by
 have hpx:=Yq (en:=en) hi hk hs (by decide);have hlt:=h.has.lt;have hf:=h.few;have hR:=h
 have hB:∀s,vr 0 ts i s=(zT==s):=by
  intro s;unfold vr;rw[qu hi];unfold yA;rw[hk,hs];rfl
 have hIs:∀(W:World) (k:Int) (s:List UInt8) (b:Bool),zF W rb A C ts i en 0 k→(zT==s)=b→Calls Tryz.prog 43 #[.pointer (some ⟨rb,0,none⟩),.string (bs s)] W λe w'=>e= .returned (.bool b)∧∃q,w'=W.drewN q:=by
  intro W k s b h hb;have:=j7 h s;rw[hB,hb]at this;exact this
 have hpl:∀W k,zF W rb A C ts i en 0 k→Calls Tryz.prog 42 #[.pointer (some ⟨rb,0,none⟩)] W λe w'=>e= .returned (.int .i64 (ts[i].2:Nat))∧Below W.heap.size W w':=by
  intro W k h;refine(jv h).mono ?_;rintro e w' ⟨rfl,q,rfl⟩;rw[jL hi];exact⟨rfl,jG (Below.refl _ _) _⟩
 have h0:=h.kp (zd w (.cells #[.string ⟨#[]⟩,.string ⟨#[]⟩,.int .i64 0,.int .i64 0,.slice none 0 0] 24));have fin:∀(e:Ending) (w':World),qj w rb A C ts i en 0 (λ_ _=>qi en (ts.drop i)) e w'→qj w rb A C ts i en 0 qi e w':=λe w' h=>h
 rw[hpx]at fin;generalize ts[i].2=at_ at hpl fin;clear hpx hs hk hB;have hi5:(i:Int)≤500:=by omega
 go_enter Tryz.func22,Tryz.ntmps22
 go_wp2_with (first
  |((go_at_call 42)
    refine(hpl _ _ h0).mono ?_;rintro e w2 ⟨rfl,hb2⟩;have S3:=(xi (at_:=((at_:Nat):Int)) hR hb2 hlt).alloc (.cells #[.string ⟨#[100,101,118,105,99,101]⟩,.string ⟨#[106,111,117,114,110,97,108]⟩,.string ⟨#[107,101,121]⟩,.string ⟨#[114,111,111,116]⟩,.string ⟨#[118,111,108,117,109,101]⟩,.string ⟨#[101,120,112,111,114,116]⟩] 9);have pq:=S3.pq;(have G3:ze ((w2.alloc (.cells #[.string ⟨#[]⟩,.string ⟨#[]⟩,.int .i64 0,.int .i64 (at_:Nat),.slice none 0 0] 24)).alloc (.cells #[.string ⟨#[100,101,118,105,99,101]⟩,.string ⟨#[106,111,117,114,110,97,108]⟩,.string ⟨#[107,101,121]⟩,.string ⟨#[114,111,111,116]⟩,.string ⟨#[118,111,108,117,109,101]⟩,.string ⟨#[101,120,112,111,114,116]⟩] 9)) (w2.heap.size+1) 9 #[.string ⟨#[100,101,118,105,99,101]⟩,.string ⟨#[106,111,117,114,110,97,108]⟩,.string ⟨#[107,101,121]⟩,.string ⟨#[114,111,111,116]⟩,.string ⟨#[118,111,108,117,109,101]⟩,.string ⟨#[101,120,112,111,114,116]⟩]:=ze.new_at (by simp))))
 go_loopw [5] (λz wr=>∃k:Nat,z= .int .i64 (k:Nat)∧ze wr (w2.heap.size+1) 9 #[.string ⟨#[100,101,118,105,99,101]⟩,.string ⟨#[106,111,117,114,110,97,108]⟩,.string ⟨#[107,101,121]⟩,.string ⟨#[114,111,111,116]⟩,.string ⟨#[118,111,108,117,109,101]⟩,.string ⟨#[101,120,112,111,114,116]⟩]∧((k≤2∧Qj w rb A C ts i en w2.heap.size #[.string ⟨#[]⟩,.string ⟨#[]⟩,.int .i64 0,.int .i64 (at_:Nat),.slice none 0 0] wr i 0)∨(k=3∧Qj w rb A C ts i en w2.heap.size #[.string ⟨#[107,101,121]⟩,.string ⟨#[]⟩,.int .i64 0,.int .i64 (at_:Nat),.slice none 0 0] wr i 0))) (λz _=>7-(intOf z).toNat)
 case atStart=>exact⟨0,rfl,G3,.inl ⟨Nat.zero_le _,S3⟩⟩
 case round =>
  obtain⟨k,rfl,G4,hS⟩:=hrel;have lG4:=G4.lt;rcases hS with⟨hk,S4⟩|⟨rfl,S4⟩
  ·obtain⟨k4,h4⟩:=S4.at hR
   have q0:=S4.hq.cell 0;have f0:=S4.hq.free 0;have lq:=S4.hq.lt;rcases(by omega:k=0∨k=1∨k=2)with rfl|rfl|rfl
   ·have g0:=G4.cell 0
    have hI:=hIs wr k4 zc false h4 rfl;rw[show bs zc=⟨#[100,101,118,105,99,101]⟩from rfl]at hI
    go_wp2_with (first
     |((go_at_call 43)
       refine hI.mono ?_;(rintro e w5 ⟨rfl,q5,rfl⟩)))
    go_roundw
    case rel=>exact⟨1,rfl,G4.drewN q5,.inl ⟨by omega,S4.drewN q5⟩⟩
    case measure=>simp[intOf]
   ·have g0:=G4.cell 1
    have hI:=hIs wr k4 zg false h4 rfl;rw[show bs zg=⟨#[106,111,117,114,110,97,108]⟩from rfl]at hI
    go_wp2_with (first
     |((go_at_call 43)
       refine hI.mono ?_;(rintro e w5 ⟨rfl,q5,rfl⟩)))
    go_roundw
    case rel=>exact⟨2,rfl,G4.drewN q5,.inl ⟨by omega,S4.drewN q5⟩⟩
    case measure=>simp[intOf]
   ·have g0:=G4.cell 2
    have hI:=hIs wr k4 zT true h4 rfl;rw[show bs zT=⟨#[107,101,121]⟩from rfl]at hI
    go_wp2_with (first
     |((go_at_call 43)
       refine hI.mono ?_;(rintro e w5 ⟨rfl,q5,rfl⟩)))
    go_roundw
    case rel=>exact⟨3,rfl,(G4.drewN q5).other (by show w2.heap.size+1≠w2.heap.size;omega) _,.inr ⟨rfl,(S4.drewN q5).put 0 _ _ rfl⟩⟩
    case measure=>simp[intOf]
  ·obtain⟨k4,h4⟩:=S4.at hR
   have q0:=S4.hq.cell 0;have lq:=S4.hq.lt;have S5:=S4.step hi;obtain⟨k5,h5⟩:=S5.at hR;have c4:=h4.has.cell 1;have d4:=h4.has.free 1;have l4:=h4.has.lt;simp only[jg,jd,jf]at c4
   go_wp2_with (first
    |((go_at_call 45)
      refine qk (wr.setCell ⟨rb,1,none⟩ (.int .i64 ((i:Int)+1))) ?_;refine(rname_c' h5).mono ?_;rintro e w5 ⟨i5,b5,⟨⟨tk5,ts5,tn5⟩,ta5⟩,rfl,s5,T5,x5⟩;have S6:=((S5.rst s5).put 1 (.string (bs ts5)) #[.string ⟨#[107,101,121]⟩,.string (bs ts5),.int .i64 0,.int .i64 (at_:Nat),.slice none 0 0] rfl).alloc (.cells #[.int .i64 (tk5:Nat),.string (bs ts5),.int .i64 (tn5:Nat),.int .i64 (ta5:Nat)] 100);obtain⟨k6,h6⟩:=S6.at hR;have q5:=(S5.rst s5).hq.cell 0;have q51:=(S5.rst s5).hq.cell 1;have q52:=(S5.rst s5).hq.cell 2;have q54:=(S5.rst s5).hq.cell 4;have f51:=(S5.rst s5).hq.free 1;have f52:=(S5.rst s5).hq.free 2;have f54:=(S5.rst s5).hq.free 4;have l5:=(S5.rst s5).hq.lt;(have m5:w2.heap.size≠w5.heap.size:=by omega);(simp only[qt]))
    |((go_at_call 46)
      refine qk ((w5.setCell ⟨w2.heap.size,1,none⟩ (.string (bs ts5))).alloc (.cells #[.int .i64 (tk5:Nat),.string (bs ts5),.int .i64 (tn5:Nat),.int .i64 (ta5:Nat)] 100)) ?_;refine(xl h6 2).mono ?_;rintro e w7 ⟨i7,b7,⟨⟨tk7,ts7,tn7⟩,ta7⟩,rfl,s7,T7,x7⟩;have S8:=(((S6.rst s7).put 4 (.slice (some ⟨w7.heap.size+1,0,none⟩) 1 1) #[.string ⟨#[107,101,121]⟩,.string (bs ts5),.int .i64 0,.int .i64 (at_:Nat),.slice (some ⟨w7.heap.size+1,0,none⟩) 1 1] rfl).alloc (.cells #[.int .i64 (tk7:Nat),.string (bs ts7),.int .i64 (tn7:Nat),.int .i64 (ta7:Nat)] 100)).alloc (.cells #[.string ⟨#[104,101,120]⟩,.string (bs ts7),.int .i64 0,.int .i64 (ta7:Nat),.slice none 0 0] 24);obtain⟨k8,h8⟩:=S8.at hR;have H8:ze (((w7.setCell ⟨w2.heap.size,4,none⟩ (.slice (some ⟨w7.heap.size+1,0,none⟩) 1 1)).alloc (.cells #[.int .i64 (tk7:Nat),.string (bs ts7),.int .i64 (tn7:Nat),.int .i64 (ta7:Nat)] 100)).alloc (.cells #[.string ⟨#[104,101,120]⟩,.string (bs ts7),.int .i64 0,.int .i64 (ta7:Nat),.slice none 0 0] 24)) (w7.heap.size+1) 24 #[.string ⟨#[104,101,120]⟩,.string (bs ts7),.int .i64 0,.int .i64 (ta7:Nat),.slice none 0 0]:=ze.new_at (by simp);have q74:=(S6.rst s7).hq.cell 4;have f74:=(S6.rst s7).hq.free 4;have l7:=(S6.rst s7).hq.lt;(have m7:w2.heap.size≠w7.heap.size:=by omega);(have n7:w2.heap.size≠w7.heap.size+1:=by omega);(simp only[qt]))
    |((go_at_call 47)
      refine qk ((((w7.setCell ⟨w2.heap.size,4,none⟩ (.slice (some ⟨w7.heap.size+1,0,none⟩) 1 1)).alloc (.cells #[.int .i64 (tk7:Nat),.string (bs ts7),.int .i64 (tn7:Nat),.int .i64 (ta7:Nat)] 100)).alloc (.cells #[.string ⟨#[104,101,120]⟩,.string (bs ts7),.int .i64 0,.int .i64 (ta7:Nat),.slice none 0 0] 24))) ?_;refine(qC h8 [59]).mono ?_;rintro e w9 ⟨rfl,i9,b9,s9,t9,T9⟩;rw[jz hG (by decide)]at T9;have S9:=S8.rst s9;have p9:=S9.hp.lt;have r9:=S9.hq.lt;have ca0:=S9.hp.cell 0;have ca1:=S9.hp.cell 1;have ca2:=S9.hp.cell 2;have ca3:=S9.hp.cell 3;have ca4:=S9.hp.cell 4;have fa0:=S9.hp.free 0;have fa1:=S9.hp.free 1;have fa2:=S9.hp.free 2;have fa3:=S9.hp.free 3;have fa4:=S9.hp.free 4;have cb0:=S9.hq.cell 0;have cb1:=S9.hq.cell 1;have cb2:=S9.hq.cell 2;have cb3:=S9.hq.cell 3;(have cb4:=S9.hq.cell 4))
    )
   refine zY rfl rfl (S9.hp.set5 _ _ _ _ _) rfl (fin _ _ ?_);refine⟨i9,b9,.mk zT ts5 0 (at_:Nat) [.mk Zn ts7 0 (ta7:Nat) []],some ⟨w7.heap.size+1,0,none⟩,1,rfl,?_,qX.set5 S9.st (Nat.le_refl _) hlt _ _ _ _ _,T5.bind ((show zX b5 (qV zT en (ts.drop i5)) ts ((0:Int),[Nd.mk Zn ts7 0 (ta7:Nat) []]) i7 b7 from T7.map (λt:Tk×Nat=>((0:Int),[Nd.mk Zn t.1.s 0 ((t.2:Nat):Int) []]))).bind (T9.map (λ_=>Nd.mk zT ts5 0 (at_:Nat) [.mk Zn ts7 0 (ta7:Nat) []]))),Nat.le_of_ble_eq_true rfl⟩;exact(jB.single (n:= .mk Zn ts7 0 (ta7:Nat) []) (P:=λg=>w.heap.size≤g∧g≠w.heap.size) (H8.kp s9.2.2.1 (by omega)) (by omega) (jB.nil _ _)).set5 (λg hg=>hg.2) _ _ _ _ _ |>.mono λg hg=>hg.1
end
end Go.Proofs.YtebcfkigbbolaaaGreatDoor
