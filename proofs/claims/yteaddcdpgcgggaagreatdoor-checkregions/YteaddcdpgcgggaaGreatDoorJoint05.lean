import Derived.Test.YteaddcdpgcgggaaGreatDoorJoint04
namespace Go.Proofs.YteaddcdpgcgggaaGreatDoor
set_option linter.unusedVariables false
set_option maxRecDepth 100000
set_option maxHeartbeats 40000000
section
open Go.ChangeShapes Go.WideShapes Go.ChangeAt Go.RowKit
theorem g5{w:World}{rb:Nat}{A:Option Addr}{C:Nat}{ts:zL}{i en:Nat}{k:Int}(h:zT w rb A C ts i en 0 k)(hG:xk ts)(d N:Nat)(hN:N≤12)(hi:i<ts.length)(hk:ts[i].1.kind=0)(hs:ts[i].1.s=jl)
 (hx:∀(w:World) (i:Nat) (bad k:Int),zT w rb A C ts i en bad k→Calls Tryz.prog 32 #[.pointer (some ⟨rb,0,none⟩),.int .i64 ((N:Int)+1)] w (qT w rb A C ts i en bad (qA d))):
 Calls Tryz.prog 32 #[.pointer (some ⟨rb,0,none⟩),.int .i64 (N:Nat)] w (qT w rb A C ts i en 0 (qA (d+1))):=by
 have hpx:=Vp (d:=d) (en:=en) hi hk hs (by decide) (by decide);have hR:=h;have hlt:=h.has.lt;have hf:=h.few
 have hop:∀W k,zT W rb A C ts i en 0 k→Calls Tryz.prog 53 #[.pointer (some ⟨rb,0,none⟩)] W λe w'=>e= .returned (.string ⟨#[99,114,121,112,116]⟩)∧Below W.heap.size W w':=by
  intro W k h;refine(QG h).mono ?_;rintro e w' ⟨rfl,hb⟩;refine⟨?_,hb⟩
  have :vW ZZ (v7 0 ts i)=jl:=by
   have hb:∀s,v7 0 ts i s=(s==jl):=by
    intro s;unfold v7;rw[jc hi];unfold xe;rw[hk,hs];simp only[decide_true,Bool.true_and,beq_self_eq_true,Bool.true_or];rw[Bool.eq_iff_iff];simp only[beq_iff_eq];exact eq_comm
   rw[show v7 0 ts i=λs=>s==jl from funext hb];decide
  rw[this];rfl
 have hpl:∀W k,zT W rb A C ts i en 0 k→Calls Tryz.prog 26 #[.pointer (some ⟨rb,0,none⟩)] W λe w'=>e= .returned (.int .i64 (ts[i].2:Nat))∧Below W.heap.size W w':=by
  intro W k h;refine(vi h).mono ?_;rintro e w' ⟨rfl,q,rfl⟩;rw[vw hi];exact⟨rfl,j7 (Below.refl _ _) _⟩
 have h0:=h.kp (zl w (.cells #[.string ⟨#[]⟩,.string ⟨#[]⟩,.int .i64 0,.int .i64 0,.slice none 0 0] 24));have hN0:=zm.new w 24 #[.string ⟨#[]⟩,.string ⟨#[]⟩,.int .i64 0,.int .i64 0,.slice none 0 0];rw[show(qA (d+1))=qA (d+1)from rfl];have fin:∀(e:Ending) (w':World),qT w rb A C ts i en 0 (λ_ _=>qA (d+1) en (ts.drop i)) e w'→qT w rb A C ts i en 0 (qA (d+1)) e w':=λe w' h=>h
 rw[hpx]at fin;generalize ts[i].2=at_ at hpl fin;clear hpx hs hk;have hi1:i+1≤ts.length:=by omega
 have hi5:(i:Int)≤500:=by omega
 go_enter Tryz.func32,Tryz.ntmps32
 go_wp2_with (first
  |((go_at_call 53)
    refine(hop _ _ h0).mono ?_;rintro e w1 ⟨rfl,hb1⟩;have h1:=h0.kp hb1;have c1:=h1.has.cell 3;have l1:=h1.has.lt;(simp only[qH,qG,qI]at c1))
  |((go_at_call 26)
    refine(hpl _ _ h1).mono ?_;rintro e w2 ⟨rfl,hb2⟩;have h2:=h1.kp hb2;have c2:=h2.has.cell 1;have d2:=h2.has.free 1;have l2:=h2.has.lt;simp only[qH,qG,qI]at c2;have N2:=(hN0.below hb1 hN0.lt).below hb2 (hN0.below hb1 hN0.lt).lt;have lp2:=N2.lt;have E3:yR w rb A C ts i en w2.heap.size ⟨#[99,114,121,112,116]⟩ (at_:Nat) ((w2.setCell ⟨rb,1,none⟩ (.int .i64 ((i:Int)+1))).alloc (.cells #[.string ⟨#[99,114,121,112,116]⟩,.string ⟨#[]⟩,.int .i64 0,.int .i64 (at_:Nat),.slice none 0 0] 24)) (i+1) 0 [] (.slice none 0 0):=xW hR hb1 hb2 hi1 hlt;have pq:=E3.pq;(obtain⟨k3,h3⟩:=E3.at hR))
  |((go_at_call 31)
    refine qN ((w2.setCell ⟨rb,1,none⟩ (.int .i64 ((i:Int)+1))).alloc (.cells #[.string ⟨#[99,114,121,112,116]⟩,.string ⟨#[]⟩,.int .i64 0,.int .i64 (at_:Nat),.slice none 0 0] 24)) ?_;refine(ji h3 [40]).mono ?_;rintro e w4 ⟨rfl,i4,b4,s4,t4,T4⟩;rw[ve hG (by decide)]at T4;have E4:=E3.rst s4;obtain⟨k4,h4⟩:=jQ.at h3 s4;have z4:=s4.2.2.1.size;have q4:=E4.hq.cell 4;have r4:=E4.hq.lt;(have f4:=E4.hq.free 4))
  |((go_at_call 32)
    refine qN (w4) ?_;refine(hx _ _ _ _ h4).mono ?_;rintro e w5 ⟨i5,b5,x5,A5,C5,rfl,N5,s5,T5,l5⟩;have E5:=E4.rst s5;obtain⟨k5,h5⟩:=jQ.at h4 s5;have z5:=s5.2.2.1.size;have q5:=E5.hq.cell 4;have r5:=E5.hq.lt;have f5:=E5.hq.free 4;simp only[qD];have E5a:=(E5.alloc (.cells #[.string (bs x5.op),.string (bs x5.s),.int .i64 x5.n,.int .i64 x5.a,.slice A5 x5.l.length C5] 24)).alloc (.cells #[.string (bs x5.op),.string (bs x5.s),.int .i64 x5.n,.int .i64 x5.a,.slice A5 x5.l.length C5] 24);(have N5a:=(E4.row.apart N5 (by omega)).grow (((Below.refl _ w5).alloc (Nat.le_refl _) (.cells #[.string (bs x5.op),.string (bs x5.s),.int .i64 x5.n,.int .i64 x5.a,.slice A5 x5.l.length C5] 24)).alloc (by simp) (.cells #[.string (bs x5.op),.string (bs x5.s),.int .i64 x5.n,.int .i64 x5.a,.slice A5 x5.l.length C5] 24))))
  |((refine zi 58 rfl ?_)
    refine zY rfl _ _ rfl (w2.heap.size+1) [] _ rfl E5a.row (by simp;omega) (by decide) [x5] [.slice A5 x5.l.length C5] (by simp) (by simp) rfl (JU _ _ _) (FS N5a) (w5.heap.size+1) rfl (zm.new_at (by simp)) 1 rfl ?_;intro A6 C6 w6 R6 B6;have E6:=E5a.put R6 B6;have u6:=(E5a.hq.below B6 (by omega)).cell 4;have v6:=(E5a.hq.below B6 (by omega)).free 4;have y6:=(E5a.hq.below B6 (by omega)).lt;(obtain⟨k6,h6⟩:=E6.at hR))
  |((go_at_call 31)
    refine qN (w6.setCell ⟨w2.heap.size,4,none⟩ (.slice A6 1 C6)) ?_;refine(ji h6 [44]).mono ?_;rintro e w7 ⟨rfl,i7,b7,s7,t7,T7⟩;rw[ve hG (by decide)]at T7;have E7:=E6.rst s7;obtain⟨k7,h7⟩:=jQ.at h6 s7;have z7:=s7.2.2.1.size;have q7:=E7.hq.cell 4;have r7:=E7.hq.lt;(have f7:=E7.hq.free 4))
  |((go_at_call 55)
    refine qN (w7) ?_;refine(Yc h7 (qA d)).mono ?_;rintro e w8 ⟨i8,b8,x8,A8,C8,rfl,N8,s8,T8,l8⟩;have E8:=E7.rst s8;obtain⟨k8,h8⟩:=jQ.at h7 s8;have z8:=s8.2.2.1.size;have q8:=E8.hq.cell 4;have r8:=E8.hq.lt;have f8:=E8.hq.free 4;simp only[qD];have E8a:=(E8.alloc (.cells #[.string (bs x8.op),.string (bs x8.s),.int .i64 x8.n,.int .i64 x8.a,.slice A8 x8.l.length C8] 24)).alloc (.cells #[.string (bs x8.op),.string (bs x8.s),.int .i64 x8.n,.int .i64 x8.a,.slice A8 x8.l.length C8] 24);(have N8a:=(E7.row.apart N8 (by omega)).grow (((Below.refl _ w8).alloc (Nat.le_refl _) (.cells #[.string (bs x8.op),.string (bs x8.s),.int .i64 x8.n,.int .i64 x8.a,.slice A8 x8.l.length C8] 24)).alloc (by simp) (.cells #[.string (bs x8.op),.string (bs x8.s),.int .i64 x8.n,.int .i64 x8.a,.slice A8 x8.l.length C8] 24))))
  |((refine zi 131 rfl ?_)
    refine zY rfl _ _ rfl (w2.heap.size+1) [x5] _ rfl E8a.row (by simp;omega) (by simp) [x8] [.slice A8 x8.l.length C8] (by simp) (by simp) rfl (JU _ _ _) (FS N8a) (w8.heap.size+1) rfl (zm.new_at (by simp)) 2 rfl ?_;intro A9 C9 w9 R9 B9;have E9:=E8a.put R9 B9;have u9:=(E8a.hq.below B9 (by omega)).cell 4;have v9:=(E8a.hq.below B9 (by omega)).free 4;have y9:=(E8a.hq.below B9 (by omega)).lt;(obtain⟨k9,h9⟩:=E9.at hR))
  |((go_at_call 31)
    refine qN (w9.setCell ⟨w2.heap.size,4,none⟩ (.slice A9 2 C9)) ?_;refine(ji h9 [41]).mono ?_;rintro e w10 ⟨rfl,i10,b10,s10,t10,T10⟩;rw[ve hG (by decide)]at T10;have E10:=E9.rst s10;obtain⟨k10,h10⟩:=jQ.at h9 s10;have z10:=s10.2.2.1.size;have q10:=E10.hq.cell 4;have r10:=E10.hq.lt;have f10:=E10.hq.free 4;have p10:=E10.hp.lt;have ca0:=E10.hp.cell 0;have ca1:=E10.hp.cell 1;have ca2:=E10.hp.cell 2;have ca3:=E10.hp.cell 3;have ca4:=E10.hp.cell 4;have fa0:=E10.hp.free 0;have fa1:=E10.hp.free 1;have fa2:=E10.hp.free 2;have fa3:=E10.hp.free 3;have fa4:=E10.hp.free 4;have cb0:=E10.hq.cell 0;have cb1:=E10.hq.cell 1;have cb2:=E10.hq.cell 2;have cb3:=E10.hq.cell 3;(have cb4:=E10.hq.cell 4))
  )
 refine jL rfl rfl (E10.hp.set5 _ _ _ _ _) rfl (fin _ _ ?_);refine⟨i10,b10,.mk jl [] 0 (at_:Nat) [x5,x8],A9,C9,rfl,?_,jQ.set5 E10.st (Nat.le_refl _) hlt _ _ _ _ _,(Z1 rfl T4 (Ky (ks:= .na) T5 T7 T8) T10).map (λl=>Nd.mk jl [] 0 (at_:Nat) l),Nat.le_of_ble_eq_true rfl⟩;exact(E10.row.done.mono λg hg=>(by omega:w.heap.size≤g∧g≠w.heap.size)).set5 (λg hg=>hg.2) _ _ _ _ _ |>.mono λg hg=>hg.1
theorem YG{w:World}{rb:Nat}{A:Option Addr}{C:Nat}{ts:zL}{i en:Nat}{k:Int}(h:zT w rb A C ts i en 0 k)(hG:xk ts)(d N:Nat)(hN:N≤12)(hi:i<ts.length)(hk:ts[i].1.kind=0)(hs:ts[i].1.s=qb)
 (hx:∀(w:World) (i:Nat) (bad k:Int),zT w rb A C ts i en bad k→Calls Tryz.prog 32 #[.pointer (some ⟨rb,0,none⟩),.int .i64 ((N:Int)+1)] w (qT w rb A C ts i en bad (qA d))):
 Calls Tryz.prog 32 #[.pointer (some ⟨rb,0,none⟩),.int .i64 (N:Nat)] w (qT w rb A C ts i en 0 (qA (d+1))):=by
 have hpx:=Vp (d:=d) (en:=en) hi hk hs (by decide) (by decide);have hR:=h;have hlt:=h.has.lt;have hf:=h.few
 have hop:∀W k,zT W rb A C ts i en 0 k→Calls Tryz.prog 53 #[.pointer (some ⟨rb,0,none⟩)] W λe w'=>e= .returned (.string ⟨#[105,110,116,101,103,114,105,116,121]⟩)∧Below W.heap.size W w':=by
  intro W k h;refine(QG h).mono ?_;rintro e w' ⟨rfl,hb⟩;refine⟨?_,hb⟩
  have :vW ZZ (v7 0 ts i)=qb:=by
   have hb:∀s,v7 0 ts i s=(s==qb):=by
    intro s;unfold v7;rw[jc hi];unfold xe;rw[hk,hs];simp only[decide_true,Bool.true_and,beq_self_eq_true,Bool.true_or];rw[Bool.eq_iff_iff];simp only[beq_iff_eq];exact eq_comm
   rw[show v7 0 ts i=λs=>s==qb from funext hb];decide
  rw[this];rfl
 have hpl:∀W k,zT W rb A C ts i en 0 k→Calls Tryz.prog 26 #[.pointer (some ⟨rb,0,none⟩)] W λe w'=>e= .returned (.int .i64 (ts[i].2:Nat))∧Below W.heap.size W w':=by
  intro W k h;refine(vi h).mono ?_;rintro e w' ⟨rfl,q,rfl⟩;rw[vw hi];exact⟨rfl,j7 (Below.refl _ _) _⟩
 have h0:=h.kp (zl w (.cells #[.string ⟨#[]⟩,.string ⟨#[]⟩,.int .i64 0,.int .i64 0,.slice none 0 0] 24));have hN0:=zm.new w 24 #[.string ⟨#[]⟩,.string ⟨#[]⟩,.int .i64 0,.int .i64 0,.slice none 0 0];rw[show(qA (d+1))=qA (d+1)from rfl];have fin:∀(e:Ending) (w':World),qT w rb A C ts i en 0 (λ_ _=>qA (d+1) en (ts.drop i)) e w'→qT w rb A C ts i en 0 (qA (d+1)) e w':=λe w' h=>h
 rw[hpx]at fin;generalize ts[i].2=at_ at hpl fin;clear hpx hs hk;have hi1:i+1≤ts.length:=by omega
 have hi5:(i:Int)≤500:=by omega
 go_enter Tryz.func32,Tryz.ntmps32
 go_wp2_with (first
  |((go_at_call 53)
    refine(hop _ _ h0).mono ?_;rintro e w1 ⟨rfl,hb1⟩;have h1:=h0.kp hb1;have c1:=h1.has.cell 3;have l1:=h1.has.lt;(simp only[qH,qG,qI]at c1))
  |((go_at_call 26)
    refine(hpl _ _ h1).mono ?_;rintro e w2 ⟨rfl,hb2⟩;have h2:=h1.kp hb2;have c2:=h2.has.cell 1;have d2:=h2.has.free 1;have l2:=h2.has.lt;simp only[qH,qG,qI]at c2;have N2:=(hN0.below hb1 hN0.lt).below hb2 (hN0.below hb1 hN0.lt).lt;have lp2:=N2.lt;have E3:yR w rb A C ts i en w2.heap.size ⟨#[105,110,116,101,103,114,105,116,121]⟩ (at_:Nat) ((w2.setCell ⟨rb,1,none⟩ (.int .i64 ((i:Int)+1))).alloc (.cells #[.string ⟨#[105,110,116,101,103,114,105,116,121]⟩,.string ⟨#[]⟩,.int .i64 0,.int .i64 (at_:Nat),.slice none 0 0] 24)) (i+1) 0 [] (.slice none 0 0):=xW hR hb1 hb2 hi1 hlt;have pq:=E3.pq;(obtain⟨k3,h3⟩:=E3.at hR))
  |((go_at_call 31)
    refine qN ((w2.setCell ⟨rb,1,none⟩ (.int .i64 ((i:Int)+1))).alloc (.cells #[.string ⟨#[105,110,116,101,103,114,105,116,121]⟩,.string ⟨#[]⟩,.int .i64 0,.int .i64 (at_:Nat),.slice none 0 0] 24)) ?_;refine(ji h3 [40]).mono ?_;rintro e w4 ⟨rfl,i4,b4,s4,t4,T4⟩;rw[ve hG (by decide)]at T4;have E4:=E3.rst s4;obtain⟨k4,h4⟩:=jQ.at h3 s4;have z4:=s4.2.2.1.size;have q4:=E4.hq.cell 4;have r4:=E4.hq.lt;(have f4:=E4.hq.free 4))
  |((go_at_call 32)
    refine qN (w4) ?_;refine(hx _ _ _ _ h4).mono ?_;rintro e w5 ⟨i5,b5,x5,A5,C5,rfl,N5,s5,T5,l5⟩;have E5:=E4.rst s5;obtain⟨k5,h5⟩:=jQ.at h4 s5;have z5:=s5.2.2.1.size;have q5:=E5.hq.cell 4;have r5:=E5.hq.lt;have f5:=E5.hq.free 4;simp only[qD];have E5a:=(E5.alloc (.cells #[.string (bs x5.op),.string (bs x5.s),.int .i64 x5.n,.int .i64 x5.a,.slice A5 x5.l.length C5] 24)).alloc (.cells #[.string (bs x5.op),.string (bs x5.s),.int .i64 x5.n,.int .i64 x5.a,.slice A5 x5.l.length C5] 24);(have N5a:=(E4.row.apart N5 (by omega)).grow (((Below.refl _ w5).alloc (Nat.le_refl _) (.cells #[.string (bs x5.op),.string (bs x5.s),.int .i64 x5.n,.int .i64 x5.a,.slice A5 x5.l.length C5] 24)).alloc (by simp) (.cells #[.string (bs x5.op),.string (bs x5.s),.int .i64 x5.n,.int .i64 x5.a,.slice A5 x5.l.length C5] 24))))
  |((refine zi 58 rfl ?_)
    refine zY rfl _ _ rfl (w2.heap.size+1) [] _ rfl E5a.row (by simp;omega) (by decide) [x5] [.slice A5 x5.l.length C5] (by simp) (by simp) rfl (JU _ _ _) (FS N5a) (w5.heap.size+1) rfl (zm.new_at (by simp)) 1 rfl ?_;intro A6 C6 w6 R6 B6;have E6:=E5a.put R6 B6;have u6:=(E5a.hq.below B6 (by omega)).cell 4;have v6:=(E5a.hq.below B6 (by omega)).free 4;have y6:=(E5a.hq.below B6 (by omega)).lt;(obtain⟨k6,h6⟩:=E6.at hR))
  |((go_at_call 31)
    refine qN (w6.setCell ⟨w2.heap.size,4,none⟩ (.slice A6 1 C6)) ?_;refine(ji h6 [44]).mono ?_;rintro e w7 ⟨rfl,i7,b7,s7,t7,T7⟩;rw[ve hG (by decide)]at T7;have E7:=E6.rst s7;obtain⟨k7,h7⟩:=jQ.at h6 s7;have z7:=s7.2.2.1.size;have q7:=E7.hq.cell 4;have r7:=E7.hq.lt;(have f7:=E7.hq.free 4))
  |((go_at_call 55)
    refine qN (w7) ?_;refine(Yc h7 (qA d)).mono ?_;rintro e w8 ⟨i8,b8,x8,A8,C8,rfl,N8,s8,T8,l8⟩;have E8:=E7.rst s8;obtain⟨k8,h8⟩:=jQ.at h7 s8;have z8:=s8.2.2.1.size;have q8:=E8.hq.cell 4;have r8:=E8.hq.lt;have f8:=E8.hq.free 4;simp only[qD];have E8a:=(E8.alloc (.cells #[.string (bs x8.op),.string (bs x8.s),.int .i64 x8.n,.int .i64 x8.a,.slice A8 x8.l.length C8] 24)).alloc (.cells #[.string (bs x8.op),.string (bs x8.s),.int .i64 x8.n,.int .i64 x8.a,.slice A8 x8.l.length C8] 24);(have N8a:=(E7.row.apart N8 (by omega)).grow (((Below.refl _ w8).alloc (Nat.le_refl _) (.cells #[.string (bs x8.op),.string (bs x8.s),.int .i64 x8.n,.int .i64 x8.a,.slice A8 x8.l.length C8] 24)).alloc (by simp) (.cells #[.string (bs x8.op),.string (bs x8.s),.int .i64 x8.n,.int .i64 x8.a,.slice A8 x8.l.length C8] 24))))
  |((refine zi 131 rfl ?_)
    refine zY rfl _ _ rfl (w2.heap.size+1) [x5] _ rfl E8a.row (by simp;omega) (by simp) [x8] [.slice A8 x8.l.length C8] (by simp) (by simp) rfl (JU _ _ _) (FS N8a) (w8.heap.size+1) rfl (zm.new_at (by simp)) 2 rfl ?_;intro A9 C9 w9 R9 B9;have E9:=E8a.put R9 B9;have u9:=(E8a.hq.below B9 (by omega)).cell 4;have v9:=(E8a.hq.below B9 (by omega)).free 4;have y9:=(E8a.hq.below B9 (by omega)).lt;(obtain⟨k9,h9⟩:=E9.at hR))
  |((go_at_call 31)
    refine qN (w9.setCell ⟨w2.heap.size,4,none⟩ (.slice A9 2 C9)) ?_;refine(ji h9 [41]).mono ?_;rintro e w10 ⟨rfl,i10,b10,s10,t10,T10⟩;rw[ve hG (by decide)]at T10;have E10:=E9.rst s10;obtain⟨k10,h10⟩:=jQ.at h9 s10;have z10:=s10.2.2.1.size;have q10:=E10.hq.cell 4;have r10:=E10.hq.lt;have f10:=E10.hq.free 4;have p10:=E10.hp.lt;have ca0:=E10.hp.cell 0;have ca1:=E10.hp.cell 1;have ca2:=E10.hp.cell 2;have ca3:=E10.hp.cell 3;have ca4:=E10.hp.cell 4;have fa0:=E10.hp.free 0;have fa1:=E10.hp.free 1;have fa2:=E10.hp.free 2;have fa3:=E10.hp.free 3;have fa4:=E10.hp.free 4;have cb0:=E10.hq.cell 0;have cb1:=E10.hq.cell 1;have cb2:=E10.hq.cell 2;have cb3:=E10.hq.cell 3;(have cb4:=E10.hq.cell 4))
  )
 refine jL rfl rfl (E10.hp.set5 _ _ _ _ _) rfl (fin _ _ ?_);refine⟨i10,b10,.mk qb [] 0 (at_:Nat) [x5,x8],A9,C9,rfl,?_,jQ.set5 E10.st (Nat.le_refl _) hlt _ _ _ _ _,(Z1 rfl T4 (Ky (ks:= .na) T5 T7 T8) T10).map (λl=>Nd.mk qb [] 0 (at_:Nat) l),Nat.le_of_ble_eq_true rfl⟩;exact(E10.row.done.mono λg hg=>(by omega:w.heap.size≤g∧g≠w.heap.size)).set5 (λg hg=>hg.2) _ _ _ _ _ |>.mono λg hg=>hg.1
theorem uY{w:World}{rb:Nat}{A:Option Addr}{C:Nat}{ts:zL}{i en:Nat}{k:Int}(h:zT w rb A C ts i en 0 k)(hG:xk ts)(d N:Nat)(hN:N≤12)(hi:i<ts.length)(hk:ts[i].1.kind=0)(hs:ts[i].1.s=jf)
 (hx:∀(w:World) (i:Nat) (bad k:Int),zT w rb A C ts i en bad k→Calls Tryz.prog 32 #[.pointer (some ⟨rb,0,none⟩),.int .i64 ((N:Int)+1)] w (qT w rb A C ts i en bad (qA d))):
 Calls Tryz.prog 32 #[.pointer (some ⟨rb,0,none⟩),.int .i64 (N:Nat)] w (qT w rb A C ts i en 0 (qA (d+1))):=by
 have hpx:=Vp (d:=d) (en:=en) hi hk hs (by decide) (by decide);have hR:=h;have hlt:=h.has.lt;have hf:=h.few
 have hop:∀W k,zT W rb A C ts i en 0 k→Calls Tryz.prog 53 #[.pointer (some ⟨rb,0,none⟩)] W λe w'=>e= .returned (.string ⟨#[118,101,114,105,116,121]⟩)∧Below W.heap.size W w':=by
  intro W k h;refine(QG h).mono ?_;rintro e w' ⟨rfl,hb⟩;refine⟨?_,hb⟩
  have :vW ZZ (v7 0 ts i)=jf:=by
   have hb:∀s,v7 0 ts i s=(s==jf):=by
    intro s;unfold v7;rw[jc hi];unfold xe;rw[hk,hs];simp only[decide_true,Bool.true_and,beq_self_eq_true,Bool.true_or];rw[Bool.eq_iff_iff];simp only[beq_iff_eq];exact eq_comm
   rw[show v7 0 ts i=λs=>s==jf from funext hb];decide
  rw[this];rfl
 have hpl:∀W k,zT W rb A C ts i en 0 k→Calls Tryz.prog 26 #[.pointer (some ⟨rb,0,none⟩)] W λe w'=>e= .returned (.int .i64 (ts[i].2:Nat))∧Below W.heap.size W w':=by
  intro W k h;refine(vi h).mono ?_;rintro e w' ⟨rfl,q,rfl⟩;rw[vw hi];exact⟨rfl,j7 (Below.refl _ _) _⟩
 have h0:=h.kp (zl w (.cells #[.string ⟨#[]⟩,.string ⟨#[]⟩,.int .i64 0,.int .i64 0,.slice none 0 0] 24));have hN0:=zm.new w 24 #[.string ⟨#[]⟩,.string ⟨#[]⟩,.int .i64 0,.int .i64 0,.slice none 0 0];rw[show(qA (d+1))=qA (d+1)from rfl];have fin:∀(e:Ending) (w':World),qT w rb A C ts i en 0 (λ_ _=>qA (d+1) en (ts.drop i)) e w'→qT w rb A C ts i en 0 (qA (d+1)) e w':=λe w' h=>h
 rw[hpx]at fin;generalize ts[i].2=at_ at hpl fin;clear hpx hs hk;have hi1:i+1≤ts.length:=by omega
 have hi5:(i:Int)≤500:=by omega
 go_enter Tryz.func32,Tryz.ntmps32
 go_wp2_with (first
  |((go_at_call 53)
    refine(hop _ _ h0).mono ?_;rintro e w1 ⟨rfl,hb1⟩;have h1:=h0.kp hb1;have c1:=h1.has.cell 3;have l1:=h1.has.lt;(simp only[qH,qG,qI]at c1))
  |((go_at_call 26)
    refine(hpl _ _ h1).mono ?_;rintro e w2 ⟨rfl,hb2⟩;have h2:=h1.kp hb2;have c2:=h2.has.cell 1;have d2:=h2.has.free 1;have l2:=h2.has.lt;simp only[qH,qG,qI]at c2;have N2:=(hN0.below hb1 hN0.lt).below hb2 (hN0.below hb1 hN0.lt).lt;have lp2:=N2.lt;have E3:yR w rb A C ts i en w2.heap.size ⟨#[118,101,114,105,116,121]⟩ (at_:Nat) ((w2.setCell ⟨rb,1,none⟩ (.int .i64 ((i:Int)+1))).alloc (.cells #[.string ⟨#[118,101,114,105,116,121]⟩,.string ⟨#[]⟩,.int .i64 0,.int .i64 (at_:Nat),.slice none 0 0] 24)) (i+1) 0 [] (.slice none 0 0):=xW hR hb1 hb2 hi1 hlt;have pq:=E3.pq;(obtain⟨k3,h3⟩:=E3.at hR))
  |((go_at_call 31)
    refine qN ((w2.setCell ⟨rb,1,none⟩ (.int .i64 ((i:Int)+1))).alloc (.cells #[.string ⟨#[118,101,114,105,116,121]⟩,.string ⟨#[]⟩,.int .i64 0,.int .i64 (at_:Nat),.slice none 0 0] 24)) ?_;refine(ji h3 [40]).mono ?_;rintro e w4 ⟨rfl,i4,b4,s4,t4,T4⟩;rw[ve hG (by decide)]at T4;have E4:=E3.rst s4;obtain⟨k4,h4⟩:=jQ.at h3 s4;have z4:=s4.2.2.1.size;have q4:=E4.hq.cell 4;have r4:=E4.hq.lt;(have f4:=E4.hq.free 4))
  |((go_at_call 32)
    refine qN (w4) ?_;refine(hx _ _ _ _ h4).mono ?_;rintro e w5 ⟨i5,b5,x5,A5,C5,rfl,N5,s5,T5,l5⟩;have E5:=E4.rst s5;obtain⟨k5,h5⟩:=jQ.at h4 s5;have z5:=s5.2.2.1.size;have q5:=E5.hq.cell 4;have r5:=E5.hq.lt;have f5:=E5.hq.free 4;simp only[qD];have E5a:=(E5.alloc (.cells #[.string (bs x5.op),.string (bs x5.s),.int .i64 x5.n,.int .i64 x5.a,.slice A5 x5.l.length C5] 24)).alloc (.cells #[.string (bs x5.op),.string (bs x5.s),.int .i64 x5.n,.int .i64 x5.a,.slice A5 x5.l.length C5] 24);(have N5a:=(E4.row.apart N5 (by omega)).grow (((Below.refl _ w5).alloc (Nat.le_refl _) (.cells #[.string (bs x5.op),.string (bs x5.s),.int .i64 x5.n,.int .i64 x5.a,.slice A5 x5.l.length C5] 24)).alloc (by simp) (.cells #[.string (bs x5.op),.string (bs x5.s),.int .i64 x5.n,.int .i64 x5.a,.slice A5 x5.l.length C5] 24))))
  |((refine zi 58 rfl ?_)
    refine zY rfl _ _ rfl (w2.heap.size+1) [] _ rfl E5a.row (by simp;omega) (by decide) [x5] [.slice A5 x5.l.length C5] (by simp) (by simp) rfl (JU _ _ _) (FS N5a) (w5.heap.size+1) rfl (zm.new_at (by simp)) 1 rfl ?_;intro A6 C6 w6 R6 B6;have E6:=E5a.put R6 B6;have u6:=(E5a.hq.below B6 (by omega)).cell 4;have v6:=(E5a.hq.below B6 (by omega)).free 4;have y6:=(E5a.hq.below B6 (by omega)).lt;(obtain⟨k6,h6⟩:=E6.at hR))
  |((go_at_call 31)
    refine qN (w6.setCell ⟨w2.heap.size,4,none⟩ (.slice A6 1 C6)) ?_;refine(ji h6 [44]).mono ?_;rintro e w7 ⟨rfl,i7,b7,s7,t7,T7⟩;rw[ve hG (by decide)]at T7;have E7:=E6.rst s7;obtain⟨k7,h7⟩:=jQ.at h6 s7;have z7:=s7.2.2.1.size;have q7:=E7.hq.cell 4;have r7:=E7.hq.lt;(have f7:=E7.hq.free 4))
  |((go_at_call 55)
    refine qN (w7) ?_;refine(Yc h7 (qA d)).mono ?_;rintro e w8 ⟨i8,b8,x8,A8,C8,rfl,N8,s8,T8,l8⟩;have E8:=E7.rst s8;obtain⟨k8,h8⟩:=jQ.at h7 s8;have z8:=s8.2.2.1.size;have q8:=E8.hq.cell 4;have r8:=E8.hq.lt;have f8:=E8.hq.free 4;simp only[qD];have E8a:=(E8.alloc (.cells #[.string (bs x8.op),.string (bs x8.s),.int .i64 x8.n,.int .i64 x8.a,.slice A8 x8.l.length C8] 24)).alloc (.cells #[.string (bs x8.op),.string (bs x8.s),.int .i64 x8.n,.int .i64 x8.a,.slice A8 x8.l.length C8] 24);(have N8a:=(E7.row.apart N8 (by omega)).grow (((Below.refl _ w8).alloc (Nat.le_refl _) (.cells #[.string (bs x8.op),.string (bs x8.s),.int .i64 x8.n,.int .i64 x8.a,.slice A8 x8.l.length C8] 24)).alloc (by simp) (.cells #[.string (bs x8.op),.string (bs x8.s),.int .i64 x8.n,.int .i64 x8.a,.slice A8 x8.l.length C8] 24))))
  |((refine zi 131 rfl ?_)
    refine zY rfl _ _ rfl (w2.heap.size+1) [x5] _ rfl E8a.row (by simp;omega) (by simp) [x8] [.slice A8 x8.l.length C8] (by simp) (by simp) rfl (JU _ _ _) (FS N8a) (w8.heap.size+1) rfl (zm.new_at (by simp)) 2 rfl ?_;intro A9 C9 w9 R9 B9;have E9:=E8a.put R9 B9;have u9:=(E8a.hq.below B9 (by omega)).cell 4;have v9:=(E8a.hq.below B9 (by omega)).free 4;have y9:=(E8a.hq.below B9 (by omega)).lt;(obtain⟨k9,h9⟩:=E9.at hR))
  |((go_at_call 31)
    refine qN (w9.setCell ⟨w2.heap.size,4,none⟩ (.slice A9 2 C9)) ?_;refine(ji h9 [41]).mono ?_;rintro e w10 ⟨rfl,i10,b10,s10,t10,T10⟩;rw[ve hG (by decide)]at T10;have E10:=E9.rst s10;obtain⟨k10,h10⟩:=jQ.at h9 s10;have z10:=s10.2.2.1.size;have q10:=E10.hq.cell 4;have r10:=E10.hq.lt;have f10:=E10.hq.free 4;have p10:=E10.hp.lt;have ca0:=E10.hp.cell 0;have ca1:=E10.hp.cell 1;have ca2:=E10.hp.cell 2;have ca3:=E10.hp.cell 3;have ca4:=E10.hp.cell 4;have fa0:=E10.hp.free 0;have fa1:=E10.hp.free 1;have fa2:=E10.hp.free 2;have fa3:=E10.hp.free 3;have fa4:=E10.hp.free 4;have cb0:=E10.hq.cell 0;have cb1:=E10.hq.cell 1;have cb2:=E10.hq.cell 2;have cb3:=E10.hq.cell 3;(have cb4:=E10.hq.cell 4))
  )
 refine jL rfl rfl (E10.hp.set5 _ _ _ _ _) rfl (fin _ _ ?_);refine⟨i10,b10,.mk jf [] 0 (at_:Nat) [x5,x8],A9,C9,rfl,?_,jQ.set5 E10.st (Nat.le_refl _) hlt _ _ _ _ _,(Z1 rfl T4 (Ky (ks:= .na) T5 T7 T8) T10).map (λl=>Nd.mk jf [] 0 (at_:Nat) l),Nat.le_of_ble_eq_true rfl⟩;exact(E10.row.done.mono λg hg=>(by omega:w.heap.size≤g∧g≠w.heap.size)).set5 (λg hg=>hg.2) _ _ _ _ _ |>.mono λg hg=>hg.1
theorem YO{bad:Int}{ts:zL}{i:Nat}(l:List (List UInt8))(hb:bad≠0):vW l (v7 bad ts i)= []:=by
 refine QS (λj hj=>?_);unfold v7;rw[decide_eq_false hb];rfl
theorem zbF{w W:World}{rb:Nat}{A:Option Addr}{C:Nat}{ts:zL}{i i' en:Nat}{bad bad':Int}{a:Act}{P:yj Nd}{fn:Func}{s:Nat}(hr:fn.results= #[.cell s 24])(hlt:rb<w.heap.size)(hs:jQ (w.alloc (.cells #[.string ⟨#[]⟩,.string ⟨#[]⟩,.int .i64 0,.int .i64 0,.slice none 0 0] 24)) rb A C ts i en W i' bad')(hT:qF bad (P en (ts.drop i)) ts (Nd.mk [] [] 0 0 []) i' bad')(ha:a.tmps[s]?.getD undef= .pointer (some ⟨w.heap.size,0,none⟩))(hd:a.defers= []):bodyPost Tryz.prog fn (qT w rb A C ts i en bad P) .ret a (Qj W w.heap.size (.string ⟨#[]⟩) (.string ⟨#[]⟩) (.int .i64 0) (.int .i64 0) (.slice none 0 0)):=by
 have hN:=zm.new w 24 #[.string ⟨#[]⟩,.string ⟨#[]⟩,.int .i64 0,.int .i64 0,.slice none 0 0];have hN1:zm W w.heap.size 24 #[.string ⟨#[]⟩,.string ⟨#[]⟩,.int .i64 0,.int .i64 0,.slice none 0 0]:=hN.kp hs.2.2.1 (by omega);refine jL hr ha (hN1.set5 _ _ _ _ _) hd ?_;exact⟨i',bad',.mk [] [] 0 0 [],none,0,rfl,yn.nil _ _,jQ.set5 hs.left (Nat.le_refl _) hlt _ _ _ _ _,hT,Nat.zero_le _⟩
theorem DU{w:World}{rb:Nat}{A:Option Addr}{C:Nat}{ts:zL}{i en:Nat}{bad k:Int}(h:zT w rb A C ts i en bad k)(d N:Nat)(hN:N≤12)(hb:bad≠0):Calls Tryz.prog 32 #[.pointer (some ⟨rb,0,none⟩),.int .i64 (N:Nat)] w (qT w rb A C ts i en bad (qA d)):=by
 have hlt:=h.has.lt;have h0:=h.kp (zl w (.cells #[.string ⟨#[]⟩,.string ⟨#[]⟩,.int .i64 0,.int .i64 0,.slice none 0 0] 24));have hN0:=zm.new w 24 #[.string ⟨#[]⟩,.string ⟨#[]⟩,.int .i64 0,.int .i64 0,.slice none 0 0];have ho:=QG h0;rw[YO _ hb]at ho;have hd0:decide (bad=0)=false:=decide_eq_false hb;have hd1:(bad==0)=false:=by simpa using hb
 have hd2:(bad != 0)=true:=by rw[bne,hd1];rfl
 have hR:=h;go_enter Tryz.func32,Tryz.ntmps32
 go_wp2_with (first
  |((go_at_call 53)
    refine ho.mono ?_;rintro e w1 ⟨rfl,hb1⟩;have h1:=h0.kp hb1;have c1:=h1.has.cell 3;have l1:=h1.has.lt;simp only[qH,qG,qI]at c1;have hN1:=hN0.below hb1 hN0.lt;have n1:=hN1.lt;have a0:=hN1.cell 0;have b0:=hN1.free 0;have a1:=hN1.cell 1;have b1:=hN1.free 1;have a2:=hN1.cell 2;have b2:=hN1.free 2;have a3:=hN1.cell 3;have b3:=hN1.free 3;have a4:=hN1.cell 4;(have b4:=hN1.free 4)))
 exact zbF rfl hlt ((jQ.refl h0).below hb1 (Nat.le_refl _) h0.has.lt) (qF.bad hb hb _ _ _ _) rfl rfl
theorem rex_deep'{w:World}{rb:Nat}{A:Option Addr}{C:Nat}{ts:zL}{i en:Nat}{bad k:Int}(h:zT w rb A C ts i en bad k):Calls Tryz.prog 32 #[.pointer (some ⟨rb,0,none⟩),.int .i64 13] w (qT w rb A C ts i en bad (qA 0)):=by
 have hlt:=h.has.lt;have h0:=h.kp (zl w (.cells #[.string ⟨#[]⟩,.string ⟨#[]⟩,.int .i64 0,.int .i64 0,.slice none 0 0] 24));have hN0:=zm.new w 24 #[.string ⟨#[]⟩,.string ⟨#[]⟩,.int .i64 0,.int .i64 0,.slice none 0 0];have hF:=Jp h0 112 (by decide);have hR:=h;go_enter Tryz.func32,Tryz.ntmps32
 go_wp2_with (first
  |((go_at_call 28)
    refine hF.mono ?_;rintro e w1 ⟨rfl,b1,k1,hb1,h1,hk1⟩;have ho:=QG h1;rw[YO _ hb1]at ho;have hd0:decide (b1=0)=false:=decide_eq_false hb1;(have hd1:(b1==0)=false:=by simpa using hb1);(have hd2:(b1 != 0)=true:=by rw[bne,hd1];rfl))
  |((go_at_call 53)
    refine ho.mono ?_;rintro e w2 ⟨rfl,hb2⟩;have h2:=h1.kp hb2;have c1:=h2.has.cell 3;have l1:=h2.has.lt;simp only[qH,qG,qI]at c1;have hN1:=(hN0.kp hk1 (by omega)).below hb2 (hN0.kp hk1 (by omega)).lt;have n1:=hN1.lt;have a0:=hN1.cell 0;have b0:=hN1.free 0;have a1:=hN1.cell 1;have b1:=hN1.free 1;have a2:=hN1.cell 2;have b2:=hN1.free 2;have a3:=hN1.cell 3;have b3:=hN1.free 3;have a4:=hN1.cell 4;(have b4:=hN1.free 4)))
 exact zbF rfl hlt ((jQ.of (Nat.le_refl _) hk1 h1).below hb2 hk1.size h0.has.lt) (qF.err (e:=(112,place en (ts.drop i))) rfl hb1 _ _ _) rfl rfl
theorem rex_use'{w:World}{rb:Nat}{A:Option Addr}{C:Nat}{ts:zL}{i en:Nat}{k:Int}(h:zT w rb A C ts i en 0 k)(d N:Nat)(hN:N≤12)(hf:vW ZZ (v7 0 ts i)= [])(hi:∀hi:i<ts.length,ts[i].1.kind=0→(qn ts[i].1.s).1.length=0):Calls Tryz.prog 32 #[.pointer (some ⟨rb,0,none⟩),.int .i64 (N:Nat)] w (qT w rb A C ts i en 0 (qA (d+1))):=by
 have hpx:=zbZ (d:=d) (en:=en) hi;have hlt:=h.has.lt;have h0:=h.kp (zl w (.cells #[.string ⟨#[]⟩,.string ⟨#[]⟩,.int .i64 0,.int .i64 0,.slice none 0 0] 24));have hN0:=zm.new w 24 #[.string ⟨#[]⟩,.string ⟨#[]⟩,.int .i64 0,.int .i64 0,.slice none 0 0];have ho:=QG h0;rw[hf,show bs []=⟨#[]⟩from rfl]at ho;have fin:∀(e:Ending) (w':World),qT w rb A C ts i en 0 (λ_ _=>qA (d+1) en (ts.drop i)) e w'→qT w rb A C ts i en 0 (qA (d+1)) e w':=λe w' h=>h
 rw[hpx]at fin;clear hpx hi hf;have hR:=h;go_enter Tryz.func32,Tryz.ntmps32
 go_wp2_with (first
  |((go_at_call 53)
    refine ho.mono ?_;rintro e w1 ⟨rfl,hb1⟩;have h1:=h0.kp hb1;have c1:=h1.has.cell 3;have l1:=h1.has.lt;simp only[qH,qG,qI]at c1;(have hnm:=rname_c' h1))
  |((go_at_call 29)
    refine hnm.mono ?_;rintro e w2 ⟨i2,bb2,⟨⟨tk,tss,tn⟩,ta⟩,rfl,s2,T2,hx2⟩;have hN1:=(hN0.below hb1 hN0.lt).kp s2.2.2.1 (by omega);have n1:=hN1.lt;(have m1:w.heap.size≠w2.heap.size:=by omega);have a0:=hN1.cell 0;have b0:=hN1.free 0;have a1:=hN1.cell 1;have b1:=hN1.free 1;have a2:=hN1.cell 2;have b2:=hN1.free 2;have a3:=hN1.cell 3;have b3:=hN1.free 3;have a4:=hN1.cell 4;have b4:=hN1.free 4;(simp only[vG])))
 refine jL rfl rfl ((hN1.set5 _ _ _ _ _).alloc _) rfl (fin _ _ ?_);have hs:jQ w rb A C ts i en w2 i2 bb2:=(((jQ.refl h0).below hb1 (Nat.le_refl _) h0.has.lt).left).trans s2;exact⟨i2,bb2,.mk vK tss 0 (ta:Nat) [],none,0,rfl,yn.nil _ _,(jQ.set5 hs (Nat.le_refl _) hlt _ _ _ _ _).alloc _,T2.map (λt:Tk×Nat=>Nd.mk vK t.1.s 0 ((t.2:Nat):Int) []),Nat.zero_le _⟩
theorem zbl{rb:Nat}{A:Option Addr}{C:Nat}{ts:zL}{en:Nat}(hG:xk ts)(d:Nat):∀(N:Nat) (w:World) (i:Nat) (bad k:Int),N+d=13→zT w rb A C ts i en bad k→Calls Tryz.prog 32 #[.pointer (some ⟨rb,0,none⟩),.int .i64 (N:Nat)] w (qT w rb A C ts i en bad (qA d)):=by
 induction d with
 |zero =>
  intro N w i bad k hNd h;obtain rfl:N=13:=by omega
  exact rex_deep' h
 |succ d ih =>
  intro N w i bad k hNd h;by_cases hb:bad=0
  ·subst hb
   have hx:∀(w:World) (i:Nat) (bad k:Int),zT w rb A C ts i en bad k→Calls Tryz.prog 32 #[.pointer (some ⟨rb,0,none⟩),.int .i64 ((N:Int)+1)] w (qT w rb A C ts i en bad (qA d)):=by
    intro w i bad k h;have:=ih (N+1) w i bad k (by omega) h;rw[show(((N+1:Nat)):Int)=(N:Int)+1 by omega]at this;exact this
   by_cases hw:∃hi:i<ts.length,ts[i].1.kind=0∧ts[i].1.s ∈ ZZ
   ·obtain⟨hi,hk,hm⟩:=hw
    simp only[ZZ,List.mem_cons,List.not_mem_nil,or_false]at hm;rcases hm with e|e|e|e|e|e|e
    ·exact uq h hG d N (by omega) hi hk e hx
    ·exact uE h hG d N (by omega) hi hk e hx
    ·exact uw h hG d N (by omega) hi hk e hx
    ·exact Kv h hG d N (by omega) hi hk e hx
    ·exact g5 h hG d N (by omega) hi hk e hx
    ·exact YG h hG d N (by omega) hi hk e hx
    ·exact uY h hG d N (by omega) hi hk e hx
   ·refine rex_use' h d N (by omega) (QS λj hj=>?_) ?_
    ·cases hc:v7 0 ts i ZZ[j]with
     |false=>rfl
     |true =>
      obtain⟨_,hi,hp⟩:=ZF hc;have hmem:=List.getElem_mem hj
      obtain⟨e1,e2⟩:=XD hG hi (by
       intro c e;rw[e]at hmem;simp only[ZZ,List.mem_cons,List.not_mem_nil,or_false]at hmem
       rcases hmem with q|q|q|q|q|q|q<;>cases q) hp
      exact absurd ⟨hi,e1,by rw[e2];exact hmem⟩ hw
    ·intro hi hk
     have hm:ts[i].1.s ∉ ZZ:=λe=>hw ⟨hi,hk,e⟩
     simp only[ZZ,List.mem_cons,List.not_mem_nil,or_false,not_or]at hm;obtain⟨m1,m2,m3,m4,m5,m6,m7⟩:=hm;unfold qn;rw[if_neg m1,if_neg (by simp[m2,m3]),if_neg m4,if_neg (by simp[m5,m6,m7])];rfl
  ·exact DU h (d+1) N (by omega) hb
end
section
open Go.ChangeShapes Go.WideShapes Go.ChangeAt Go.RowKit
structure QQ (w0:World) (rb:Nat) (A:Option Addr) (C:Nat) (ts:zL) (i0 en:Nat) (q:Nat) (cs:Array Value) (wr:World) (i':Nat) (bad':Int):Prop where
 st:jQ w0 rb A C ts i0 en wr i' bad'
 hp:zm wr w0.heap.size 24 #[.string ⟨#[]⟩,.string ⟨#[]⟩,.int .i64 0,.int .i64 0,.slice none 0 0]
 hq:zm wr q 24 cs
 lt:rb<w0.heap.size
 pq:w0.heap.size<q
section
variable {w0:World} {rb:Nat} {A:Option Addr} {C:Nat} {ts:zL} {i0 en q:Nat} {cs:Array Value} {wr:World} {i':Nat} {bad':Int}
theorem QQ.rst(h:QQ w0 rb A C ts i0 en q cs wr i' bad'){w':World}{i2:Nat}{b2:Int}(s:jQ wr rb A C ts i' en w' i2 b2):QQ w0 rb A C ts i0 en q cs w' i2 b2:=by
 have hlt:=h.lt;have hpq:=h.pq;exact⟨h.st.trans s,h.hp.kp s.2.2.1 (by omega),h.hq.kp s.2.2.1 (by omega),hlt,hpq⟩
theorem QQ.alloc(h:QQ w0 rb A C ts i0 en q cs wr i' bad')(o:Obj):QQ w0 rb A C ts i0 en q cs (wr.alloc o) i' bad':=⟨h.st.alloc o,h.hp.alloc o,h.hq.alloc o,h.lt,h.pq⟩
theorem QQ.drewN(h:QQ w0 rb A C ts i0 en q cs wr i' bad')(n:Nat):QQ w0 rb A C ts i0 en q cs (wr.drewN n) i' bad':=⟨h.st.drewN n,h.hp.drewN n,h.hq.drewN n,h.lt,h.pq⟩
theorem QQ.put(h:QQ w0 rb A C ts i0 en q cs wr i' bad')(j:Nat)(v:Value)(cs':Array Value)(e:cs.setIfInBounds j v=cs'):QQ w0 rb A C ts i0 en q cs' (wr.setCell ⟨q,j,none⟩ v) i' bad':=by
 have hpq:=h.pq;subst e;exact⟨h.st.new (q:=⟨q,j,none⟩) (by show _≤q;omega) h.lt v,h.hp.other (by show w0.heap.size≠q;omega) v,h.hq.putP j v,h.lt,hpq⟩
theorem QQ.step(h:QQ w0 rb A C ts i0 en q cs wr i' bad')(hi:i'<ts.length):QQ w0 rb A C ts i0 en q cs (wr.setCell ⟨rb,1,none⟩ (.int .i64 ((i':Int)+1))) (i'+1) bad':=by
 obtain⟨k',hH⟩:=h.st.2.2.2
 have hs:jQ wr rb A C ts i' en (wr.setCell ⟨rb,1,none⟩ (.int .i64 ((i':Int)+1))) (i'+1) bad':=⟨by omega,by omega,(Kp.refl rb wr).setP 1 _,k',by have:=hH.putP 1 (.int .i64 ((i':Int)+1));simpa using this⟩
 exact h.rst hs
theorem QQ.at(h:QQ w0 rb A C ts i0 en q cs wr i' bad'){bad k:Int}(h0:zT w0 rb A C ts i0 en bad k):∃k',zT wr rb A C ts i' en bad' k':=jQ.at h0 h.st
end
theorem Zb{w w2:World}{rb:Nat}{A:Option Addr}{C:Nat}{ts:zL}{i en:Nat}{bad k:Int}{at_:Int}(h:zT w rb A C ts i en bad k)(hb2:Below (w.alloc (.cells #[.string ⟨#[]⟩,.string ⟨#[]⟩,.int .i64 0,.int .i64 0,.slice none 0 0] 24)).heap.size (w.alloc (.cells #[.string ⟨#[]⟩,.string ⟨#[]⟩,.int .i64 0,.int .i64 0,.slice none 0 0] 24)) w2)(hlt:rb<w.heap.size):
 QQ w rb A C ts i en w2.heap.size #[.string ⟨#[]⟩,.string ⟨#[]⟩,.int .i64 0,.int .i64 at_,.slice none 0 0] (w2.alloc (.cells #[.string ⟨#[]⟩,.string ⟨#[]⟩,.int .i64 0,.int .i64 at_,.slice none 0 0] 24)) i bad:=by
 have hN:=zm.new w 24 #[.string ⟨#[]⟩,.string ⟨#[]⟩,.int .i64 0,.int .i64 0,.slice none 0 0];have hN2:=hN.below hb2 hN.lt;have h0:=h.kp (zl w (.cells #[.string ⟨#[]⟩,.string ⟨#[]⟩,.int .i64 0,.int .i64 0,.slice none 0 0] 24));exact⟨(((jQ.refl h0).below hb2 (Nat.le_refl _) h0.has.lt).left).alloc _,hN2.alloc _,zm.new _ _ _,hlt,hN2.lt⟩
theorem za2{p rb q B:Nat}{w8 w10:World}{v:Value}{o o':Obj}{x8:Nd}{A8:Option Addr}{C8:Nat}{x0 x1 x2 x3 x4:Value}(N8:yn w8 (λg=>B≤g) x8.l (.slice A8 x8.l.length C8))(H9:zm (((w8.setCell ⟨q,4,none⟩ v).alloc o).alloc o') (w8.heap.size+1) 24 #[.string (bs x8.op),.string (bs x8.s),.int .i64 x8.n,.int .i64 x8.a,.slice A8 x8.l.length C8])(hk:Kp rb (((w8.setCell ⟨q,4,none⟩ v).alloc o).alloc o') w10)(h1:rb<p)(h2:p<q)(h3:q<B)(h4:B≤w8.heap.size):yn (Qj w10 p x0 x1 x2 x3 x4) (λg=>p≤g) [x8] (.slice (some ⟨w8.heap.size+1,0,none⟩) 1 1):=by
 have n1:=N8.kp ((Kp.refl q w8).setP 4 v) (λg hg=>by omega);have n2:=n1.kp (p:=rb) (Kp.of (yr _ o o')) (λg hg=>by omega);have n3:=n2.kp hk (λg hg=>by omega);have n4:yn w10 (λg=>p≤g∧g≠p) x8.l (.slice A8 x8.l.length C8):=n3.mono λg hg=>by omega
 have n5:=yn.single (P:=λg=>p≤g∧g≠p) (H9.kp hk (by omega)) (by omega) n4;exact(n5.set5 (λg hg=>hg.2) _ _ _ _ _).mono λg hg=>hg.1
theorem Xl{en:Nat}{ts:zL}{i:Nat}{o:List UInt8}(hi:i<ts.length)(hk:ts[i].1.kind=0)(hs:ts[i].1.s=o)(ho:o ∈ xF):jC en (ts.drop i)=(zU (qi yp) λu=>zU (xi o) λr=>zU (qi (xE [59])) λ_=>vD (.mk o u.1.s r.1 ts[i].2 r.2)) en (ts.drop (i+1)):=by
 have hw:ZH xF ts[i].1=true:=by
  unfold ZH;rw[hk,hs];simp only[beq_self_eq_true,Bool.true_and,List.any_eq_true,beq_iff_eq];exact⟨o,ho,rfl⟩
 show zU (qi (ZH xF)) _ en (ts.drop i)=_;rw[List.drop_eq_getElem_cons hi];simp only[zU,qi];rw[if_pos hw];simp only[hs]
theorem zcS{en:Nat}{ts:zL}{i:Nat}(h:∀hi:i<ts.length,ts[i].1.kind=0→ts[i].1.s ∉ xF):∃e,jC en (ts.drop i)= .error e:=by
 by_cases hi:i<ts.length
 ·refine⟨(111,ts[i].2),?_⟩
  have hw:ZH xF ts[i].1=false:=by
   unfold ZH;by_cases hk:ts[i].1.kind=0
   ·have:=h hi hk
    cases ha:xF.any (λy=>ts[i].1.s==y)with
    |false=>simp
    |true =>
     simp only[List.any_eq_true,beq_iff_eq]at ha;obtain⟨y,hy,e⟩:=ha;rw[e]at this;exact absurd hy this
   ·have h0:(ts[i].1.kind==0)=false:=by rw[beq_eq_false_iff_ne];exact hk
    rw[h0];rfl
  show zU (qi (ZH xF)) _ en (ts.drop i)=_;rw[List.drop_eq_getElem_cons hi];simp only[zU,qi];rw[if_neg (by rw[hw];decide)]
 ·refine⟨(111,en),?_⟩
  rw[List.drop_eq_nil_of_le (by omega)];rfl
end
section
open Go.ChangeShapes Go.WideShapes Go.ChangeAt Go.RowKit
theorem uW{w:World}{rb:Nat}{A:Option Addr}{C:Nat}{ts:zL}{i en:Nat}{k:Int}(h:zT w rb A C ts i en 0 k)(hG:xk ts)(hi:i<ts.length)(hk:ts[i].1.kind=0)(hs:ts[i].1.s=zn):Calls Tryz.prog 14 #[.pointer (some ⟨rb,0,none⟩)] w (qT w rb A C ts i en 0 jC):=by
 have hpx:=Xl (en:=en) hi hk hs (by decide);have hlt:=h.has.lt;have hf:=h.few;have hR:=h
 have hB:∀s,v7 0 ts i s=(zn==s):=by
  intro s;unfold v7;rw[jc hi];unfold xe;rw[hk,hs];rfl
 have hIs:∀(W:World) (k:Int) (s:List UInt8) (b:Bool),zT W rb A C ts i en 0 k→(zn==s)=b→Calls Tryz.prog 27 #[.pointer (some ⟨rb,0,none⟩),.string (bs s)] W λe w'=>e= .returned (.bool b)∧∃q,w'=W.drewN q:=by
  intro W k s b h hb;have:=vN h s;rw[hB,hb]at this;exact this
 have hpl:∀W k,zT W rb A C ts i en 0 k→Calls Tryz.prog 26 #[.pointer (some ⟨rb,0,none⟩)] W λe w'=>e= .returned (.int .i64 (ts[i].2:Nat))∧Below W.heap.size W w':=by
  intro W k h;refine(vi h).mono ?_;rintro e w' ⟨rfl,q,rfl⟩;rw[vw hi];exact⟨rfl,j7 (Below.refl _ _) _⟩
 have h0:=h.kp (zl w (.cells #[.string ⟨#[]⟩,.string ⟨#[]⟩,.int .i64 0,.int .i64 0,.slice none 0 0] 24));have fin:∀(e:Ending) (w':World),qT w rb A C ts i en 0 (λ_ _=>jC en (ts.drop i)) e w'→qT w rb A C ts i en 0 jC e w':=λe w' h=>h
 rw[hpx]at fin;generalize ts[i].2=at_ at hpl fin;clear hpx hs hk hB;have hi5:(i:Int)≤500:=by omega
 go_enter Tryz.func14,Tryz.ntmps14
 go_wp2_with (first
  |((go_at_call 26)
    refine(hpl _ _ h0).mono ?_;rintro e w2 ⟨rfl,hb2⟩;have S3:=(Zb (at_:=((at_:Nat):Int)) hR hb2 hlt).alloc (.cells #[.string ⟨#[100,101,118,105,99,101]⟩,.string ⟨#[106,111,117,114,110,97,108]⟩,.string ⟨#[107,101,121]⟩,.string ⟨#[114,111,111,116]⟩,.string ⟨#[118,111,108,117,109,101]⟩,.string ⟨#[101,120,112,111,114,116]⟩] 9);have pq:=S3.pq;(have G3:zm ((w2.alloc (.cells #[.string ⟨#[]⟩,.string ⟨#[]⟩,.int .i64 0,.int .i64 (at_:Nat),.slice none 0 0] 24)).alloc (.cells #[.string ⟨#[100,101,118,105,99,101]⟩,.string ⟨#[106,111,117,114,110,97,108]⟩,.string ⟨#[107,101,121]⟩,.string ⟨#[114,111,111,116]⟩,.string ⟨#[118,111,108,117,109,101]⟩,.string ⟨#[101,120,112,111,114,116]⟩] 9)) (w2.heap.size+1) 9 #[.string ⟨#[100,101,118,105,99,101]⟩,.string ⟨#[106,111,117,114,110,97,108]⟩,.string ⟨#[107,101,121]⟩,.string ⟨#[114,111,111,116]⟩,.string ⟨#[118,111,108,117,109,101]⟩,.string ⟨#[101,120,112,111,114,116]⟩]:=zm.new_at (by simp))))
 go_loopw [5] (λz wr=>∃k:Nat,z= .int .i64 (k:Nat)∧zm wr (w2.heap.size+1) 9 #[.string ⟨#[100,101,118,105,99,101]⟩,.string ⟨#[106,111,117,114,110,97,108]⟩,.string ⟨#[107,101,121]⟩,.string ⟨#[114,111,111,116]⟩,.string ⟨#[118,111,108,117,109,101]⟩,.string ⟨#[101,120,112,111,114,116]⟩]∧((k≤0∧QQ w rb A C ts i en w2.heap.size #[.string ⟨#[]⟩,.string ⟨#[]⟩,.int .i64 0,.int .i64 (at_:Nat),.slice none 0 0] wr i 0)∨(k=1∧QQ w rb A C ts i en w2.heap.size #[.string ⟨#[100,101,118,105,99,101]⟩,.string ⟨#[]⟩,.int .i64 0,.int .i64 (at_:Nat),.slice none 0 0] wr i 0))) (λz _=>7-(intOf z).toNat)
 case atStart=>exact⟨0,rfl,G3,.inl ⟨Nat.zero_le _,S3⟩⟩
 case round =>
  obtain⟨k,rfl,G4,hS⟩:=hrel;have lG4:=G4.lt;rcases hS with⟨hk,S4⟩|⟨rfl,S4⟩
  ·obtain⟨k4,h4⟩:=S4.at hR
   have q0:=S4.hq.cell 0;have f0:=S4.hq.free 0;have lq:=S4.hq.lt;obtain rfl:k=0:=by omega
   have g0:=G4.cell 0;have hI:=hIs wr k4 zn true h4 rfl;rw[show bs zn=⟨#[100,101,118,105,99,101]⟩from rfl]at hI
   go_wp2_with (first
    |((go_at_call 27)
      refine hI.mono ?_;(rintro e w5 ⟨rfl,q5,rfl⟩)))
   go_roundw
   case rel=>exact⟨1,rfl,(G4.drewN q5).other (by show w2.heap.size+1≠w2.heap.size;omega) _,.inr ⟨rfl,(S4.drewN q5).put 0 _ _ rfl⟩⟩
   case measure=>simp[intOf]
  ·obtain⟨k4,h4⟩:=S4.at hR
   have q0:=S4.hq.cell 0;have lq:=S4.hq.lt;have S5:=S4.step hi;obtain⟨k5,h5⟩:=S5.at hR;have c4:=h4.has.cell 1;have d4:=h4.has.free 1;have l4:=h4.has.lt;simp only[qH,qG,qI]at c4
   go_wp2_with (first
    |((go_at_call 29)
      refine qN (wr.setCell ⟨rb,1,none⟩ (.int .i64 ((i:Int)+1))) ?_;refine(rname_c' h5).mono ?_;rintro e w5 ⟨i5,b5,⟨⟨tk5,ts5,tn5⟩,ta5⟩,rfl,s5,T5,x5⟩;have S6:=((S5.rst s5).put 1 (.string (bs ts5)) #[.string ⟨#[100,101,118,105,99,101]⟩,.string (bs ts5),.int .i64 0,.int .i64 (at_:Nat),.slice none 0 0] rfl).alloc (.cells #[.int .i64 (tk5:Nat),.string (bs ts5),.int .i64 (tn5:Nat),.int .i64 (ta5:Nat)] 78);obtain⟨k6,h6⟩:=S6.at hR;have q5:=(S5.rst s5).hq.cell 0;have q51:=(S5.rst s5).hq.cell 1;have q52:=(S5.rst s5).hq.cell 2;have q54:=(S5.rst s5).hq.cell 4;have f51:=(S5.rst s5).hq.free 1;have f52:=(S5.rst s5).hq.free 2;have f54:=(S5.rst s5).hq.free 4;have l5:=(S5.rst s5).hq.lt;(have m5:w2.heap.size≠w5.heap.size:=by omega);(simp only[vG]))
    |((go_at_call 30)
      refine qN ((w5.setCell ⟨w2.heap.size,1,none⟩ (.string (bs ts5))).alloc (.cells #[.int .i64 (tk5:Nat),.string (bs ts5),.int .i64 (tn5:Nat),.int .i64 (ta5:Nat)] 78)) ?_;refine(Za h6 1).mono ?_;rintro e w7 ⟨i7,b7,⟨⟨tk7,ts7,tn7⟩,ta7⟩,rfl,s7,T7,x7⟩;have S8:=((S6.rst s7).put 2 (.int .i64 (tn7:Nat)) #[.string ⟨#[100,101,118,105,99,101]⟩,.string (bs ts5),.int .i64 (tn7:Nat),.int .i64 (at_:Nat),.slice none 0 0] rfl).alloc (.cells #[.int .i64 (tk7:Nat),.string (bs ts7),.int .i64 (tn7:Nat),.int .i64 (ta7:Nat)] 78);obtain⟨k8,h8⟩:=S8.at hR;have q72:=(S6.rst s7).hq.cell 2;have f72:=(S6.rst s7).hq.free 2;have l7:=(S6.rst s7).hq.lt;(have m7:w2.heap.size≠w7.heap.size:=by omega);(simp only[vG]))
    |((go_at_call 31)
      refine qN ((((w7.setCell ⟨w2.heap.size,2,none⟩ (.int .i64 (tn7:Nat)))).alloc (.cells #[.int .i64 (tk7:Nat),.string (bs ts7),.int .i64 (tn7:Nat),.int .i64 (ta7:Nat)] 78))) ?_;refine(ji h8 [59]).mono ?_;rintro e w9 ⟨rfl,i9,b9,s9,t9,T9⟩;rw[ve hG (by decide)]at T9;have S9:=S8.rst s9;have p9:=S9.hp.lt;have r9:=S9.hq.lt;have ca0:=S9.hp.cell 0;have ca1:=S9.hp.cell 1;have ca2:=S9.hp.cell 2;have ca3:=S9.hp.cell 3;have ca4:=S9.hp.cell 4;have fa0:=S9.hp.free 0;have fa1:=S9.hp.free 1;have fa2:=S9.hp.free 2;have fa3:=S9.hp.free 3;have fa4:=S9.hp.free 4;have cb0:=S9.hq.cell 0;have cb1:=S9.hq.cell 1;have cb2:=S9.hq.cell 2;have cb3:=S9.hq.cell 3;(have cb4:=S9.hq.cell 4))
    )
   refine jL rfl rfl (S9.hp.set5 _ _ _ _ _) rfl (fin _ _ ?_);refine⟨i9,b9,.mk zn ts5 (tn7:Nat) (at_:Nat) [],none,0,rfl,?_,jQ.set5 S9.st (Nat.le_refl _) hlt _ _ _ _ _,T5.bind ((show qF b5 (xi zn en (ts.drop i5)) ts ((tn7:Int),[]) i7 b7 from T7.map (λt:Tk×Nat=>(((t.1.n:Nat):Int),([]:List Nd)))).bind (T9.map (λ_=>Nd.mk zn ts5 (tn7:Nat) (at_:Nat) []))),Nat.le_of_ble_eq_true rfl⟩;exact yn.nil _ _
theorem UM{w:World}{rb:Nat}{A:Option Addr}{C:Nat}{ts:zL}{i en:Nat}{k:Int}(h:zT w rb A C ts i en 0 k)(hG:xk ts)(hi:i<ts.length)(hk:ts[i].1.kind=0)(hs:ts[i].1.s=zq):Calls Tryz.prog 14 #[.pointer (some ⟨rb,0,none⟩)] w (qT w rb A C ts i en 0 jC):=by
 have hpx:=Xl (en:=en) hi hk hs (by decide);have hlt:=h.has.lt;have hf:=h.few;have hR:=h
 have hB:∀s,v7 0 ts i s=(zq==s):=by
  intro s;unfold v7;rw[jc hi];unfold xe;rw[hk,hs];rfl
 have hIs:∀(W:World) (k:Int) (s:List UInt8) (b:Bool),zT W rb A C ts i en 0 k→(zq==s)=b→Calls Tryz.prog 27 #[.pointer (some ⟨rb,0,none⟩),.string (bs s)] W λe w'=>e= .returned (.bool b)∧∃q,w'=W.drewN q:=by
  intro W k s b h hb;have:=vN h s;rw[hB,hb]at this;exact this
 have hpl:∀W k,zT W rb A C ts i en 0 k→Calls Tryz.prog 26 #[.pointer (some ⟨rb,0,none⟩)] W λe w'=>e= .returned (.int .i64 (ts[i].2:Nat))∧Below W.heap.size W w':=by
  intro W k h;refine(vi h).mono ?_;rintro e w' ⟨rfl,q,rfl⟩;rw[vw hi];exact⟨rfl,j7 (Below.refl _ _) _⟩
 have h0:=h.kp (zl w (.cells #[.string ⟨#[]⟩,.string ⟨#[]⟩,.int .i64 0,.int .i64 0,.slice none 0 0] 24));have fin:∀(e:Ending) (w':World),qT w rb A C ts i en 0 (λ_ _=>jC en (ts.drop i)) e w'→qT w rb A C ts i en 0 jC e w':=λe w' h=>h
 rw[hpx]at fin;generalize ts[i].2=at_ at hpl fin;clear hpx hs hk hB;have hi5:(i:Int)≤500:=by omega
 go_enter Tryz.func14,Tryz.ntmps14
 go_wp2_with (first
  |((go_at_call 26)
    refine(hpl _ _ h0).mono ?_;rintro e w2 ⟨rfl,hb2⟩;have S3:=(Zb (at_:=((at_:Nat):Int)) hR hb2 hlt).alloc (.cells #[.string ⟨#[100,101,118,105,99,101]⟩,.string ⟨#[106,111,117,114,110,97,108]⟩,.string ⟨#[107,101,121]⟩,.string ⟨#[114,111,111,116]⟩,.string ⟨#[118,111,108,117,109,101]⟩,.string ⟨#[101,120,112,111,114,116]⟩] 9);have pq:=S3.pq;(have G3:zm ((w2.alloc (.cells #[.string ⟨#[]⟩,.string ⟨#[]⟩,.int .i64 0,.int .i64 (at_:Nat),.slice none 0 0] 24)).alloc (.cells #[.string ⟨#[100,101,118,105,99,101]⟩,.string ⟨#[106,111,117,114,110,97,108]⟩,.string ⟨#[107,101,121]⟩,.string ⟨#[114,111,111,116]⟩,.string ⟨#[118,111,108,117,109,101]⟩,.string ⟨#[101,120,112,111,114,116]⟩] 9)) (w2.heap.size+1) 9 #[.string ⟨#[100,101,118,105,99,101]⟩,.string ⟨#[106,111,117,114,110,97,108]⟩,.string ⟨#[107,101,121]⟩,.string ⟨#[114,111,111,116]⟩,.string ⟨#[118,111,108,117,109,101]⟩,.string ⟨#[101,120,112,111,114,116]⟩]:=zm.new_at (by simp))))
 go_loopw [5] (λz wr=>∃k:Nat,z= .int .i64 (k:Nat)∧zm wr (w2.heap.size+1) 9 #[.string ⟨#[100,101,118,105,99,101]⟩,.string ⟨#[106,111,117,114,110,97,108]⟩,.string ⟨#[107,101,121]⟩,.string ⟨#[114,111,111,116]⟩,.string ⟨#[118,111,108,117,109,101]⟩,.string ⟨#[101,120,112,111,114,116]⟩]∧((k≤1∧QQ w rb A C ts i en w2.heap.size #[.string ⟨#[]⟩,.string ⟨#[]⟩,.int .i64 0,.int .i64 (at_:Nat),.slice none 0 0] wr i 0)∨(k=2∧QQ w rb A C ts i en w2.heap.size #[.string ⟨#[106,111,117,114,110,97,108]⟩,.string ⟨#[]⟩,.int .i64 0,.int .i64 (at_:Nat),.slice none 0 0] wr i 0))) (λz _=>7-(intOf z).toNat)
 case atStart=>exact⟨0,rfl,G3,.inl ⟨Nat.zero_le _,S3⟩⟩
 case round =>
  obtain⟨k,rfl,G4,hS⟩:=hrel;have lG4:=G4.lt;rcases hS with⟨hk,S4⟩|⟨rfl,S4⟩
  ·obtain⟨k4,h4⟩:=S4.at hR
   have q0:=S4.hq.cell 0;have f0:=S4.hq.free 0;have lq:=S4.hq.lt;rcases(by omega:k=0∨k=1)with rfl|rfl
   ·have g0:=G4.cell 0
    have hI:=hIs wr k4 zn false h4 rfl;rw[show bs zn=⟨#[100,101,118,105,99,101]⟩from rfl]at hI
    go_wp2_with (first
     |((go_at_call 27)
       refine hI.mono ?_;(rintro e w5 ⟨rfl,q5,rfl⟩)))
    go_roundw
    case rel=>exact⟨1,rfl,G4.drewN q5,.inl ⟨by omega,S4.drewN q5⟩⟩
    case measure=>simp[intOf]
   ·have g0:=G4.cell 1
    have hI:=hIs wr k4 zq true h4 rfl;rw[show bs zq=⟨#[106,111,117,114,110,97,108]⟩from rfl]at hI
    go_wp2_with (first
     |((go_at_call 27)
       refine hI.mono ?_;(rintro e w5 ⟨rfl,q5,rfl⟩)))
    go_roundw
    case rel=>exact⟨2,rfl,(G4.drewN q5).other (by show w2.heap.size+1≠w2.heap.size;omega) _,.inr ⟨rfl,(S4.drewN q5).put 0 _ _ rfl⟩⟩
    case measure=>simp[intOf]
  ·obtain⟨k4,h4⟩:=S4.at hR
   have q0:=S4.hq.cell 0;have lq:=S4.hq.lt;have S5:=S4.step hi;obtain⟨k5,h5⟩:=S5.at hR;have c4:=h4.has.cell 1;have d4:=h4.has.free 1;have l4:=h4.has.lt;simp only[qH,qG,qI]at c4
   go_wp2_with (first
    |((go_at_call 29)
      refine qN (wr.setCell ⟨rb,1,none⟩ (.int .i64 ((i:Int)+1))) ?_;refine(rname_c' h5).mono ?_;rintro e w5 ⟨i5,b5,⟨⟨tk5,ts5,tn5⟩,ta5⟩,rfl,s5,T5,x5⟩;have S6:=((S5.rst s5).put 1 (.string (bs ts5)) #[.string ⟨#[106,111,117,114,110,97,108]⟩,.string (bs ts5),.int .i64 0,.int .i64 (at_:Nat),.slice none 0 0] rfl).alloc (.cells #[.int .i64 (tk5:Nat),.string (bs ts5),.int .i64 (tn5:Nat),.int .i64 (ta5:Nat)] 78);obtain⟨k6,h6⟩:=S6.at hR;have q5:=(S5.rst s5).hq.cell 0;have q51:=(S5.rst s5).hq.cell 1;have q52:=(S5.rst s5).hq.cell 2;have q54:=(S5.rst s5).hq.cell 4;have f51:=(S5.rst s5).hq.free 1;have f52:=(S5.rst s5).hq.free 2;have f54:=(S5.rst s5).hq.free 4;have l5:=(S5.rst s5).hq.lt;(have m5:w2.heap.size≠w5.heap.size:=by omega);(simp only[vG]))
    |((go_at_call 30)
      refine qN ((w5.setCell ⟨w2.heap.size,1,none⟩ (.string (bs ts5))).alloc (.cells #[.int .i64 (tk5:Nat),.string (bs ts5),.int .i64 (tn5:Nat),.int .i64 (ta5:Nat)] 78)) ?_;refine(Za h6 1).mono ?_;rintro e w7 ⟨i7,b7,⟨⟨tk7,ts7,tn7⟩,ta7⟩,rfl,s7,T7,x7⟩;have S8:=((S6.rst s7).put 2 (.int .i64 (tn7:Nat)) #[.string ⟨#[106,111,117,114,110,97,108]⟩,.string (bs ts5),.int .i64 (tn7:Nat),.int .i64 (at_:Nat),.slice none 0 0] rfl).alloc (.cells #[.int .i64 (tk7:Nat),.string (bs ts7),.int .i64 (tn7:Nat),.int .i64 (ta7:Nat)] 78);obtain⟨k8,h8⟩:=S8.at hR;have q72:=(S6.rst s7).hq.cell 2;have f72:=(S6.rst s7).hq.free 2;have l7:=(S6.rst s7).hq.lt;(have m7:w2.heap.size≠w7.heap.size:=by omega);(simp only[vG]))
    |((go_at_call 31)
      refine qN ((((w7.setCell ⟨w2.heap.size,2,none⟩ (.int .i64 (tn7:Nat)))).alloc (.cells #[.int .i64 (tk7:Nat),.string (bs ts7),.int .i64 (tn7:Nat),.int .i64 (ta7:Nat)] 78))) ?_;refine(ji h8 [59]).mono ?_;rintro e w9 ⟨rfl,i9,b9,s9,t9,T9⟩;rw[ve hG (by decide)]at T9;have S9:=S8.rst s9;have p9:=S9.hp.lt;have r9:=S9.hq.lt;have ca0:=S9.hp.cell 0;have ca1:=S9.hp.cell 1;have ca2:=S9.hp.cell 2;have ca3:=S9.hp.cell 3;have ca4:=S9.hp.cell 4;have fa0:=S9.hp.free 0;have fa1:=S9.hp.free 1;have fa2:=S9.hp.free 2;have fa3:=S9.hp.free 3;have fa4:=S9.hp.free 4;have cb0:=S9.hq.cell 0;have cb1:=S9.hq.cell 1;have cb2:=S9.hq.cell 2;have cb3:=S9.hq.cell 3;(have cb4:=S9.hq.cell 4))
    )
   refine jL rfl rfl (S9.hp.set5 _ _ _ _ _) rfl (fin _ _ ?_);refine⟨i9,b9,.mk zq ts5 (tn7:Nat) (at_:Nat) [],none,0,rfl,?_,jQ.set5 S9.st (Nat.le_refl _) hlt _ _ _ _ _,T5.bind ((show qF b5 (xi zq en (ts.drop i5)) ts ((tn7:Int),[]) i7 b7 from T7.map (λt:Tk×Nat=>(((t.1.n:Nat):Int),([]:List Nd)))).bind (T9.map (λ_=>Nd.mk zq ts5 (tn7:Nat) (at_:Nat) []))),Nat.le_of_ble_eq_true rfl⟩;exact yn.nil _ _
theorem zaN{w:World}{rb:Nat}{A:Option Addr}{C:Nat}{ts:zL}{i en:Nat}{k:Int}(h:zT w rb A C ts i en 0 k)(hG:xk ts)(hi:i<ts.length)(hk:ts[i].1.kind=0)(hs:ts[i].1.s=zM):Calls Tryz.prog 14 #[.pointer (some ⟨rb,0,none⟩)] w (qT w rb A C ts i en 0 jC):=by
 have hpx:=Xl (en:=en) hi hk hs (by decide);have hlt:=h.has.lt;have hf:=h.few;have hR:=h
 have hB:∀s,v7 0 ts i s=(zM==s):=by
  intro s;unfold v7;rw[jc hi];unfold xe;rw[hk,hs];rfl
 have hIs:∀(W:World) (k:Int) (s:List UInt8) (b:Bool),zT W rb A C ts i en 0 k→(zM==s)=b→Calls Tryz.prog 27 #[.pointer (some ⟨rb,0,none⟩),.string (bs s)] W λe w'=>e= .returned (.bool b)∧∃q,w'=W.drewN q:=by
  intro W k s b h hb;have:=vN h s;rw[hB,hb]at this;exact this
 have hpl:∀W k,zT W rb A C ts i en 0 k→Calls Tryz.prog 26 #[.pointer (some ⟨rb,0,none⟩)] W λe w'=>e= .returned (.int .i64 (ts[i].2:Nat))∧Below W.heap.size W w':=by
  intro W k h;refine(vi h).mono ?_;rintro e w' ⟨rfl,q,rfl⟩;rw[vw hi];exact⟨rfl,j7 (Below.refl _ _) _⟩
 have h0:=h.kp (zl w (.cells #[.string ⟨#[]⟩,.string ⟨#[]⟩,.int .i64 0,.int .i64 0,.slice none 0 0] 24));have fin:∀(e:Ending) (w':World),qT w rb A C ts i en 0 (λ_ _=>jC en (ts.drop i)) e w'→qT w rb A C ts i en 0 jC e w':=λe w' h=>h
 rw[hpx]at fin;generalize ts[i].2=at_ at hpl fin;clear hpx hs hk hB;have hi5:(i:Int)≤500:=by omega
 go_enter Tryz.func14,Tryz.ntmps14
 go_wp2_with (first
  |((go_at_call 26)
    refine(hpl _ _ h0).mono ?_;rintro e w2 ⟨rfl,hb2⟩;have S3:=(Zb (at_:=((at_:Nat):Int)) hR hb2 hlt).alloc (.cells #[.string ⟨#[100,101,118,105,99,101]⟩,.string ⟨#[106,111,117,114,110,97,108]⟩,.string ⟨#[107,101,121]⟩,.string ⟨#[114,111,111,116]⟩,.string ⟨#[118,111,108,117,109,101]⟩,.string ⟨#[101,120,112,111,114,116]⟩] 9);have pq:=S3.pq;(have G3:zm ((w2.alloc (.cells #[.string ⟨#[]⟩,.string ⟨#[]⟩,.int .i64 0,.int .i64 (at_:Nat),.slice none 0 0] 24)).alloc (.cells #[.string ⟨#[100,101,118,105,99,101]⟩,.string ⟨#[106,111,117,114,110,97,108]⟩,.string ⟨#[107,101,121]⟩,.string ⟨#[114,111,111,116]⟩,.string ⟨#[118,111,108,117,109,101]⟩,.string ⟨#[101,120,112,111,114,116]⟩] 9)) (w2.heap.size+1) 9 #[.string ⟨#[100,101,118,105,99,101]⟩,.string ⟨#[106,111,117,114,110,97,108]⟩,.string ⟨#[107,101,121]⟩,.string ⟨#[114,111,111,116]⟩,.string ⟨#[118,111,108,117,109,101]⟩,.string ⟨#[101,120,112,111,114,116]⟩]:=zm.new_at (by simp))))
 go_loopw [5] (λz wr=>∃k:Nat,z= .int .i64 (k:Nat)∧zm wr (w2.heap.size+1) 9 #[.string ⟨#[100,101,118,105,99,101]⟩,.string ⟨#[106,111,117,114,110,97,108]⟩,.string ⟨#[107,101,121]⟩,.string ⟨#[114,111,111,116]⟩,.string ⟨#[118,111,108,117,109,101]⟩,.string ⟨#[101,120,112,111,114,116]⟩]∧((k≤2∧QQ w rb A C ts i en w2.heap.size #[.string ⟨#[]⟩,.string ⟨#[]⟩,.int .i64 0,.int .i64 (at_:Nat),.slice none 0 0] wr i 0)∨(k=3∧QQ w rb A C ts i en w2.heap.size #[.string ⟨#[107,101,121]⟩,.string ⟨#[]⟩,.int .i64 0,.int .i64 (at_:Nat),.slice none 0 0] wr i 0))) (λz _=>7-(intOf z).toNat)
 case atStart=>exact⟨0,rfl,G3,.inl ⟨Nat.zero_le _,S3⟩⟩
 case round =>
  obtain⟨k,rfl,G4,hS⟩:=hrel;have lG4:=G4.lt;rcases hS with⟨hk,S4⟩|⟨rfl,S4⟩
  ·obtain⟨k4,h4⟩:=S4.at hR
   have q0:=S4.hq.cell 0;have f0:=S4.hq.free 0;have lq:=S4.hq.lt;rcases(by omega:k=0∨k=1∨k=2)with rfl|rfl|rfl
   ·have g0:=G4.cell 0
    have hI:=hIs wr k4 zn false h4 rfl;rw[show bs zn=⟨#[100,101,118,105,99,101]⟩from rfl]at hI
    go_wp2_with (first
     |((go_at_call 27)
       refine hI.mono ?_;(rintro e w5 ⟨rfl,q5,rfl⟩)))
    go_roundw
    case rel=>exact⟨1,rfl,G4.drewN q5,.inl ⟨by omega,S4.drewN q5⟩⟩
    case measure=>simp[intOf]
   ·have g0:=G4.cell 1
    have hI:=hIs wr k4 zq false h4 rfl;rw[show bs zq=⟨#[106,111,117,114,110,97,108]⟩from rfl]at hI
    go_wp2_with (first
     |((go_at_call 27)
       refine hI.mono ?_;(rintro e w5 ⟨rfl,q5,rfl⟩)))
    go_roundw
    case rel=>exact⟨2,rfl,G4.drewN q5,.inl ⟨by omega,S4.drewN q5⟩⟩
    case measure=>simp[intOf]
   ·have g0:=G4.cell 2
    have hI:=hIs wr k4 zM true h4 rfl;rw[show bs zM=⟨#[107,101,121]⟩from rfl]at hI
    go_wp2_with (first
     |((go_at_call 27)
       refine hI.mono ?_;(rintro e w5 ⟨rfl,q5,rfl⟩)))
    go_roundw
    case rel=>exact⟨3,rfl,(G4.drewN q5).other (by show w2.heap.size+1≠w2.heap.size;omega) _,.inr ⟨rfl,(S4.drewN q5).put 0 _ _ rfl⟩⟩
    case measure=>simp[intOf]
  ·obtain⟨k4,h4⟩:=S4.at hR
   have q0:=S4.hq.cell 0;have lq:=S4.hq.lt;have S5:=S4.step hi;obtain⟨k5,h5⟩:=S5.at hR;have c4:=h4.has.cell 1;have d4:=h4.has.free 1;have l4:=h4.has.lt;simp only[qH,qG,qI]at c4
   go_wp2_with (first
    |((go_at_call 29)
      refine qN (wr.setCell ⟨rb,1,none⟩ (.int .i64 ((i:Int)+1))) ?_;refine(rname_c' h5).mono ?_;rintro e w5 ⟨i5,b5,⟨⟨tk5,ts5,tn5⟩,ta5⟩,rfl,s5,T5,x5⟩;have S6:=((S5.rst s5).put 1 (.string (bs ts5)) #[.string ⟨#[107,101,121]⟩,.string (bs ts5),.int .i64 0,.int .i64 (at_:Nat),.slice none 0 0] rfl).alloc (.cells #[.int .i64 (tk5:Nat),.string (bs ts5),.int .i64 (tn5:Nat),.int .i64 (ta5:Nat)] 78);obtain⟨k6,h6⟩:=S6.at hR;have q5:=(S5.rst s5).hq.cell 0;have q51:=(S5.rst s5).hq.cell 1;have q52:=(S5.rst s5).hq.cell 2;have q54:=(S5.rst s5).hq.cell 4;have f51:=(S5.rst s5).hq.free 1;have f52:=(S5.rst s5).hq.free 2;have f54:=(S5.rst s5).hq.free 4;have l5:=(S5.rst s5).hq.lt;(have m5:w2.heap.size≠w5.heap.size:=by omega);(simp only[vG]))
    |((go_at_call 30)
      refine qN ((w5.setCell ⟨w2.heap.size,1,none⟩ (.string (bs ts5))).alloc (.cells #[.int .i64 (tk5:Nat),.string (bs ts5),.int .i64 (tn5:Nat),.int .i64 (ta5:Nat)] 78)) ?_;refine(Za h6 2).mono ?_;rintro e w7 ⟨i7,b7,⟨⟨tk7,ts7,tn7⟩,ta7⟩,rfl,s7,T7,x7⟩;have S8:=(((S6.rst s7).put 4 (.slice (some ⟨w7.heap.size+1,0,none⟩) 1 1) #[.string ⟨#[107,101,121]⟩,.string (bs ts5),.int .i64 0,.int .i64 (at_:Nat),.slice (some ⟨w7.heap.size+1,0,none⟩) 1 1] rfl).alloc (.cells #[.int .i64 (tk7:Nat),.string (bs ts7),.int .i64 (tn7:Nat),.int .i64 (ta7:Nat)] 78)).alloc (.cells #[.string ⟨#[104,101,120]⟩,.string (bs ts7),.int .i64 0,.int .i64 (ta7:Nat),.slice none 0 0] 24);obtain⟨k8,h8⟩:=S8.at hR;have H8:zm (((w7.setCell ⟨w2.heap.size,4,none⟩ (.slice (some ⟨w7.heap.size+1,0,none⟩) 1 1)).alloc (.cells #[.int .i64 (tk7:Nat),.string (bs ts7),.int .i64 (tn7:Nat),.int .i64 (ta7:Nat)] 78)).alloc (.cells #[.string ⟨#[104,101,120]⟩,.string (bs ts7),.int .i64 0,.int .i64 (ta7:Nat),.slice none 0 0] 24)) (w7.heap.size+1) 24 #[.string ⟨#[104,101,120]⟩,.string (bs ts7),.int .i64 0,.int .i64 (ta7:Nat),.slice none 0 0]:=zm.new_at (by simp);have q74:=(S6.rst s7).hq.cell 4;have f74:=(S6.rst s7).hq.free 4;have l7:=(S6.rst s7).hq.lt;(have m7:w2.heap.size≠w7.heap.size:=by omega);(have n7:w2.heap.size≠w7.heap.size+1:=by omega);(simp only[vG]))
    |((go_at_call 31)
      refine qN ((((w7.setCell ⟨w2.heap.size,4,none⟩ (.slice (some ⟨w7.heap.size+1,0,none⟩) 1 1)).alloc (.cells #[.int .i64 (tk7:Nat),.string (bs ts7),.int .i64 (tn7:Nat),.int .i64 (ta7:Nat)] 78)).alloc (.cells #[.string ⟨#[104,101,120]⟩,.string (bs ts7),.int .i64 0,.int .i64 (ta7:Nat),.slice none 0 0] 24))) ?_;refine(ji h8 [59]).mono ?_;rintro e w9 ⟨rfl,i9,b9,s9,t9,T9⟩;rw[ve hG (by decide)]at T9;have S9:=S8.rst s9;have p9:=S9.hp.lt;have r9:=S9.hq.lt;have ca0:=S9.hp.cell 0;have ca1:=S9.hp.cell 1;have ca2:=S9.hp.cell 2;have ca3:=S9.hp.cell 3;have ca4:=S9.hp.cell 4;have fa0:=S9.hp.free 0;have fa1:=S9.hp.free 1;have fa2:=S9.hp.free 2;have fa3:=S9.hp.free 3;have fa4:=S9.hp.free 4;have cb0:=S9.hq.cell 0;have cb1:=S9.hq.cell 1;have cb2:=S9.hq.cell 2;have cb3:=S9.hq.cell 3;(have cb4:=S9.hq.cell 4))
    )
   refine jL rfl rfl (S9.hp.set5 _ _ _ _ _) rfl (fin _ _ ?_);refine⟨i9,b9,.mk zM ts5 0 (at_:Nat) [.mk QZ ts7 0 (ta7:Nat) []],some ⟨w7.heap.size+1,0,none⟩,1,rfl,?_,jQ.set5 S9.st (Nat.le_refl _) hlt _ _ _ _ _,T5.bind ((show qF b5 (xi zM en (ts.drop i5)) ts ((0:Int),[Nd.mk QZ ts7 0 (ta7:Nat) []]) i7 b7 from T7.map (λt:Tk×Nat=>((0:Int),[Nd.mk QZ t.1.s 0 ((t.2:Nat):Int) []]))).bind (T9.map (λ_=>Nd.mk zM ts5 0 (at_:Nat) [.mk QZ ts7 0 (ta7:Nat) []]))),Nat.le_of_ble_eq_true rfl⟩;exact(yn.single (n:= .mk QZ ts7 0 (ta7:Nat) []) (P:=λg=>w.heap.size≤g∧g≠w.heap.size) (H8.kp s9.2.2.1 (by omega)) (by omega) (yn.nil _ _)).set5 (λg hg=>hg.2) _ _ _ _ _ |>.mono λg hg=>hg.1
theorem Hr{w:World}{rb:Nat}{A:Option Addr}{C:Nat}{ts:zL}{i en:Nat}{k:Int}(h:zT w rb A C ts i en 0 k)(hG:xk ts)(hi:i<ts.length)(hk:ts[i].1.kind=0)(hs:ts[i].1.s=zN):Calls Tryz.prog 14 #[.pointer (some ⟨rb,0,none⟩)] w (qT w rb A C ts i en 0 jC):=by
 have hpx:=Xl (en:=en) hi hk hs (by decide);have hlt:=h.has.lt;have hf:=h.few;have hR:=h
 have hB:∀s,v7 0 ts i s=(zN==s):=by
  intro s;unfold v7;rw[jc hi];unfold xe;rw[hk,hs];rfl
 have hIs:∀(W:World) (k:Int) (s:List UInt8) (b:Bool),zT W rb A C ts i en 0 k→(zN==s)=b→Calls Tryz.prog 27 #[.pointer (some ⟨rb,0,none⟩),.string (bs s)] W λe w'=>e= .returned (.bool b)∧∃q,w'=W.drewN q:=by
  intro W k s b h hb;have:=vN h s;rw[hB,hb]at this;exact this
 have hpl:∀W k,zT W rb A C ts i en 0 k→Calls Tryz.prog 26 #[.pointer (some ⟨rb,0,none⟩)] W λe w'=>e= .returned (.int .i64 (ts[i].2:Nat))∧Below W.heap.size W w':=by
  intro W k h;refine(vi h).mono ?_;rintro e w' ⟨rfl,q,rfl⟩;rw[vw hi];exact⟨rfl,j7 (Below.refl _ _) _⟩
 have h0:=h.kp (zl w (.cells #[.string ⟨#[]⟩,.string ⟨#[]⟩,.int .i64 0,.int .i64 0,.slice none 0 0] 24));have fin:∀(e:Ending) (w':World),qT w rb A C ts i en 0 (λ_ _=>jC en (ts.drop i)) e w'→qT w rb A C ts i en 0 jC e w':=λe w' h=>h
 rw[hpx]at fin;generalize ts[i].2=at_ at hpl fin;clear hpx hs hk hB;have hi5:(i:Int)≤500:=by omega
 go_enter Tryz.func14,Tryz.ntmps14
 go_wp2_with (first
  |((go_at_call 26)
    refine(hpl _ _ h0).mono ?_;rintro e w2 ⟨rfl,hb2⟩;have S3:=(Zb (at_:=((at_:Nat):Int)) hR hb2 hlt).alloc (.cells #[.string ⟨#[100,101,118,105,99,101]⟩,.string ⟨#[106,111,117,114,110,97,108]⟩,.string ⟨#[107,101,121]⟩,.string ⟨#[114,111,111,116]⟩,.string ⟨#[118,111,108,117,109,101]⟩,.string ⟨#[101,120,112,111,114,116]⟩] 9);have pq:=S3.pq;(have G3:zm ((w2.alloc (.cells #[.string ⟨#[]⟩,.string ⟨#[]⟩,.int .i64 0,.int .i64 (at_:Nat),.slice none 0 0] 24)).alloc (.cells #[.string ⟨#[100,101,118,105,99,101]⟩,.string ⟨#[106,111,117,114,110,97,108]⟩,.string ⟨#[107,101,121]⟩,.string ⟨#[114,111,111,116]⟩,.string ⟨#[118,111,108,117,109,101]⟩,.string ⟨#[101,120,112,111,114,116]⟩] 9)) (w2.heap.size+1) 9 #[.string ⟨#[100,101,118,105,99,101]⟩,.string ⟨#[106,111,117,114,110,97,108]⟩,.string ⟨#[107,101,121]⟩,.string ⟨#[114,111,111,116]⟩,.string ⟨#[118,111,108,117,109,101]⟩,.string ⟨#[101,120,112,111,114,116]⟩]:=zm.new_at (by simp))))
 go_loopw [5] (λz wr=>∃k:Nat,z= .int .i64 (k:Nat)∧zm wr (w2.heap.size+1) 9 #[.string ⟨#[100,101,118,105,99,101]⟩,.string ⟨#[106,111,117,114,110,97,108]⟩,.string ⟨#[107,101,121]⟩,.string ⟨#[114,111,111,116]⟩,.string ⟨#[118,111,108,117,109,101]⟩,.string ⟨#[101,120,112,111,114,116]⟩]∧((k≤3∧QQ w rb A C ts i en w2.heap.size #[.string ⟨#[]⟩,.string ⟨#[]⟩,.int .i64 0,.int .i64 (at_:Nat),.slice none 0 0] wr i 0)∨(k=4∧QQ w rb A C ts i en w2.heap.size #[.string ⟨#[114,111,111,116]⟩,.string ⟨#[]⟩,.int .i64 0,.int .i64 (at_:Nat),.slice none 0 0] wr i 0))) (λz _=>7-(intOf z).toNat)
 case atStart=>exact⟨0,rfl,G3,.inl ⟨Nat.zero_le _,S3⟩⟩
 case round =>
  obtain⟨k,rfl,G4,hS⟩:=hrel;have lG4:=G4.lt;rcases hS with⟨hk,S4⟩|⟨rfl,S4⟩
  ·obtain⟨k4,h4⟩:=S4.at hR
   have q0:=S4.hq.cell 0;have f0:=S4.hq.free 0;have lq:=S4.hq.lt;rcases(by omega:k=0∨k=1∨k=2∨k=3)with rfl|rfl|rfl|rfl
   ·have g0:=G4.cell 0
    have hI:=hIs wr k4 zn false h4 rfl;rw[show bs zn=⟨#[100,101,118,105,99,101]⟩from rfl]at hI
    go_wp2_with (first
     |((go_at_call 27)
       refine hI.mono ?_;(rintro e w5 ⟨rfl,q5,rfl⟩)))
    go_roundw
    case rel=>exact⟨1,rfl,G4.drewN q5,.inl ⟨by omega,S4.drewN q5⟩⟩
    case measure=>simp[intOf]
   ·have g0:=G4.cell 1
    have hI:=hIs wr k4 zq false h4 rfl;rw[show bs zq=⟨#[106,111,117,114,110,97,108]⟩from rfl]at hI
    go_wp2_with (first
     |((go_at_call 27)
       refine hI.mono ?_;(rintro e w5 ⟨rfl,q5,rfl⟩)))
    go_roundw
    case rel=>exact⟨2,rfl,G4.drewN q5,.inl ⟨by omega,S4.drewN q5⟩⟩
    case measure=>simp[intOf]
   ·have g0:=G4.cell 2
    have hI:=hIs wr k4 zM false h4 rfl;rw[show bs zM=⟨#[107,101,121]⟩from rfl]at hI
    go_wp2_with (first
     |((go_at_call 27)
       refine hI.mono ?_;(rintro e w5 ⟨rfl,q5,rfl⟩)))
    go_roundw
    case rel=>exact⟨3,rfl,G4.drewN q5,.inl ⟨by omega,S4.drewN q5⟩⟩
    case measure=>simp[intOf]
   ·have g0:=G4.cell 3
    have hI:=hIs wr k4 zN true h4 rfl;rw[show bs zN=⟨#[114,111,111,116]⟩from rfl]at hI
    go_wp2_with (first
     |((go_at_call 27)
       refine hI.mono ?_;(rintro e w5 ⟨rfl,q5,rfl⟩)))
    go_roundw
    case rel=>exact⟨4,rfl,(G4.drewN q5).other (by show w2.heap.size+1≠w2.heap.size;omega) _,.inr ⟨rfl,(S4.drewN q5).put 0 _ _ rfl⟩⟩
    case measure=>simp[intOf]
  ·obtain⟨k4,h4⟩:=S4.at hR
   have q0:=S4.hq.cell 0;have lq:=S4.hq.lt;have S5:=S4.step hi;obtain⟨k5,h5⟩:=S5.at hR;have c4:=h4.has.cell 1;have d4:=h4.has.free 1;have l4:=h4.has.lt;simp only[qH,qG,qI]at c4
   go_wp2_with (first
    |((go_at_call 29)
      refine qN (wr.setCell ⟨rb,1,none⟩ (.int .i64 ((i:Int)+1))) ?_;refine(rname_c' h5).mono ?_;rintro e w5 ⟨i5,b5,⟨⟨tk5,ts5,tn5⟩,ta5⟩,rfl,s5,T5,x5⟩;have S6:=((S5.rst s5).put 1 (.string (bs ts5)) #[.string ⟨#[114,111,111,116]⟩,.string (bs ts5),.int .i64 0,.int .i64 (at_:Nat),.slice none 0 0] rfl).alloc (.cells #[.int .i64 (tk5:Nat),.string (bs ts5),.int .i64 (tn5:Nat),.int .i64 (ta5:Nat)] 78);obtain⟨k6,h6⟩:=S6.at hR;have q5:=(S5.rst s5).hq.cell 0;have q51:=(S5.rst s5).hq.cell 1;have q52:=(S5.rst s5).hq.cell 2;have q54:=(S5.rst s5).hq.cell 4;have f51:=(S5.rst s5).hq.free 1;have f52:=(S5.rst s5).hq.free 2;have f54:=(S5.rst s5).hq.free 4;have l5:=(S5.rst s5).hq.lt;(have m5:w2.heap.size≠w5.heap.size:=by omega);(simp only[vG]))
    |((go_at_call 30)
      refine qN ((w5.setCell ⟨w2.heap.size,1,none⟩ (.string (bs ts5))).alloc (.cells #[.int .i64 (tk5:Nat),.string (bs ts5),.int .i64 (tn5:Nat),.int .i64 (ta5:Nat)] 78)) ?_;refine(Za h6 2).mono ?_;rintro e w7 ⟨i7,b7,⟨⟨tk7,ts7,tn7⟩,ta7⟩,rfl,s7,T7,x7⟩;have S8:=(((S6.rst s7).put 4 (.slice (some ⟨w7.heap.size+1,0,none⟩) 1 1) #[.string ⟨#[114,111,111,116]⟩,.string (bs ts5),.int .i64 0,.int .i64 (at_:Nat),.slice (some ⟨w7.heap.size+1,0,none⟩) 1 1] rfl).alloc (.cells #[.int .i64 (tk7:Nat),.string (bs ts7),.int .i64 (tn7:Nat),.int .i64 (ta7:Nat)] 78)).alloc (.cells #[.string ⟨#[104,101,120]⟩,.string (bs ts7),.int .i64 0,.int .i64 (ta7:Nat),.slice none 0 0] 24);obtain⟨k8,h8⟩:=S8.at hR;have H8:zm (((w7.setCell ⟨w2.heap.size,4,none⟩ (.slice (some ⟨w7.heap.size+1,0,none⟩) 1 1)).alloc (.cells #[.int .i64 (tk7:Nat),.string (bs ts7),.int .i64 (tn7:Nat),.int .i64 (ta7:Nat)] 78)).alloc (.cells #[.string ⟨#[104,101,120]⟩,.string (bs ts7),.int .i64 0,.int .i64 (ta7:Nat),.slice none 0 0] 24)) (w7.heap.size+1) 24 #[.string ⟨#[104,101,120]⟩,.string (bs ts7),.int .i64 0,.int .i64 (ta7:Nat),.slice none 0 0]:=zm.new_at (by simp);have q74:=(S6.rst s7).hq.cell 4;have f74:=(S6.rst s7).hq.free 4;have l7:=(S6.rst s7).hq.lt;(have m7:w2.heap.size≠w7.heap.size:=by omega);(have n7:w2.heap.size≠w7.heap.size+1:=by omega);(simp only[vG]))
    |((go_at_call 31)
      refine qN ((((w7.setCell ⟨w2.heap.size,4,none⟩ (.slice (some ⟨w7.heap.size+1,0,none⟩) 1 1)).alloc (.cells #[.int .i64 (tk7:Nat),.string (bs ts7),.int .i64 (tn7:Nat),.int .i64 (ta7:Nat)] 78)).alloc (.cells #[.string ⟨#[104,101,120]⟩,.string (bs ts7),.int .i64 0,.int .i64 (ta7:Nat),.slice none 0 0] 24))) ?_;refine(ji h8 [59]).mono ?_;rintro e w9 ⟨rfl,i9,b9,s9,t9,T9⟩;rw[ve hG (by decide)]at T9;have S9:=S8.rst s9;have p9:=S9.hp.lt;have r9:=S9.hq.lt;have ca0:=S9.hp.cell 0;have ca1:=S9.hp.cell 1;have ca2:=S9.hp.cell 2;have ca3:=S9.hp.cell 3;have ca4:=S9.hp.cell 4;have fa0:=S9.hp.free 0;have fa1:=S9.hp.free 1;have fa2:=S9.hp.free 2;have fa3:=S9.hp.free 3;have fa4:=S9.hp.free 4;have cb0:=S9.hq.cell 0;have cb1:=S9.hq.cell 1;have cb2:=S9.hq.cell 2;have cb3:=S9.hq.cell 3;(have cb4:=S9.hq.cell 4))
    )
   refine jL rfl rfl (S9.hp.set5 _ _ _ _ _) rfl (fin _ _ ?_);refine⟨i9,b9,.mk zN ts5 0 (at_:Nat) [.mk QZ ts7 0 (ta7:Nat) []],some ⟨w7.heap.size+1,0,none⟩,1,rfl,?_,jQ.set5 S9.st (Nat.le_refl _) hlt _ _ _ _ _,T5.bind ((show qF b5 (xi zN en (ts.drop i5)) ts ((0:Int),[Nd.mk QZ ts7 0 (ta7:Nat) []]) i7 b7 from T7.map (λt:Tk×Nat=>((0:Int),[Nd.mk QZ t.1.s 0 ((t.2:Nat):Int) []]))).bind (T9.map (λ_=>Nd.mk zN ts5 0 (at_:Nat) [.mk QZ ts7 0 (ta7:Nat) []]))),Nat.le_of_ble_eq_true rfl⟩;exact(yn.single (n:= .mk QZ ts7 0 (ta7:Nat) []) (P:=λg=>w.heap.size≤g∧g≠w.heap.size) (H8.kp s9.2.2.1 (by omega)) (by omega) (yn.nil _ _)).set5 (λg hg=>hg.2) _ _ _ _ _ |>.mono λg hg=>hg.1
theorem uz{w:World}{rb:Nat}{A:Option Addr}{C:Nat}{ts:zL}{i en:Nat}{k:Int}(h:zT w rb A C ts i en 0 k)(hG:xk ts)(hi:i<ts.length)(hk:ts[i].1.kind=0)(hs:ts[i].1.s=zB):Calls Tryz.prog 14 #[.pointer (some ⟨rb,0,none⟩)] w (qT w rb A C ts i en 0 jC):=by
 have hpx:=Xl (en:=en) hi hk hs (by decide);have hlt:=h.has.lt;have hf:=h.few;have hR:=h
 have hB:∀s,v7 0 ts i s=(zB==s):=by
  intro s;unfold v7;rw[jc hi];unfold xe;rw[hk,hs];rfl
 have hIs:∀(W:World) (k:Int) (s:List UInt8) (b:Bool),zT W rb A C ts i en 0 k→(zB==s)=b→Calls Tryz.prog 27 #[.pointer (some ⟨rb,0,none⟩),.string (bs s)] W λe w'=>e= .returned (.bool b)∧∃q,w'=W.drewN q:=by
  intro W k s b h hb;have:=vN h s;rw[hB,hb]at this;exact this
 have hpl:∀W k,zT W rb A C ts i en 0 k→Calls Tryz.prog 26 #[.pointer (some ⟨rb,0,none⟩)] W λe w'=>e= .returned (.int .i64 (ts[i].2:Nat))∧Below W.heap.size W w':=by
  intro W k h;refine(vi h).mono ?_;rintro e w' ⟨rfl,q,rfl⟩;rw[vw hi];exact⟨rfl,j7 (Below.refl _ _) _⟩
 have h0:=h.kp (zl w (.cells #[.string ⟨#[]⟩,.string ⟨#[]⟩,.int .i64 0,.int .i64 0,.slice none 0 0] 24));have fin:∀(e:Ending) (w':World),qT w rb A C ts i en 0 (λ_ _=>jC en (ts.drop i)) e w'→qT w rb A C ts i en 0 jC e w':=λe w' h=>h
 rw[hpx]at fin;generalize ts[i].2=at_ at hpl fin;clear hpx hs hk hB;have hi5:(i:Int)≤500:=by omega
 go_enter Tryz.func14,Tryz.ntmps14
 go_wp2_with (first
  |((go_at_call 26)
    refine(hpl _ _ h0).mono ?_;rintro e w2 ⟨rfl,hb2⟩;have S3:=(Zb (at_:=((at_:Nat):Int)) hR hb2 hlt).alloc (.cells #[.string ⟨#[100,101,118,105,99,101]⟩,.string ⟨#[106,111,117,114,110,97,108]⟩,.string ⟨#[107,101,121]⟩,.string ⟨#[114,111,111,116]⟩,.string ⟨#[118,111,108,117,109,101]⟩,.string ⟨#[101,120,112,111,114,116]⟩] 9);have pq:=S3.pq;(have G3:zm ((w2.alloc (.cells #[.string ⟨#[]⟩,.string ⟨#[]⟩,.int .i64 0,.int .i64 (at_:Nat),.slice none 0 0] 24)).alloc (.cells #[.string ⟨#[100,101,118,105,99,101]⟩,.string ⟨#[106,111,117,114,110,97,108]⟩,.string ⟨#[107,101,121]⟩,.string ⟨#[114,111,111,116]⟩,.string ⟨#[118,111,108,117,109,101]⟩,.string ⟨#[101,120,112,111,114,116]⟩] 9)) (w2.heap.size+1) 9 #[.string ⟨#[100,101,118,105,99,101]⟩,.string ⟨#[106,111,117,114,110,97,108]⟩,.string ⟨#[107,101,121]⟩,.string ⟨#[114,111,111,116]⟩,.string ⟨#[118,111,108,117,109,101]⟩,.string ⟨#[101,120,112,111,114,116]⟩]:=zm.new_at (by simp))))
 go_loopw [5] (λz wr=>∃k:Nat,z= .int .i64 (k:Nat)∧zm wr (w2.heap.size+1) 9 #[.string ⟨#[100,101,118,105,99,101]⟩,.string ⟨#[106,111,117,114,110,97,108]⟩,.string ⟨#[107,101,121]⟩,.string ⟨#[114,111,111,116]⟩,.string ⟨#[118,111,108,117,109,101]⟩,.string ⟨#[101,120,112,111,114,116]⟩]∧((k≤4∧QQ w rb A C ts i en w2.heap.size #[.string ⟨#[]⟩,.string ⟨#[]⟩,.int .i64 0,.int .i64 (at_:Nat),.slice none 0 0] wr i 0)∨(k=5∧QQ w rb A C ts i en w2.heap.size #[.string ⟨#[118,111,108,117,109,101]⟩,.string ⟨#[]⟩,.int .i64 0,.int .i64 (at_:Nat),.slice none 0 0] wr i 0))) (λz _=>7-(intOf z).toNat)
 case atStart=>exact⟨0,rfl,G3,.inl ⟨Nat.zero_le _,S3⟩⟩
 case round =>
  obtain⟨k,rfl,G4,hS⟩:=hrel;have lG4:=G4.lt;rcases hS with⟨hk,S4⟩|⟨rfl,S4⟩
  ·obtain⟨k4,h4⟩:=S4.at hR
   have q0:=S4.hq.cell 0;have f0:=S4.hq.free 0;have lq:=S4.hq.lt;rcases(by omega:k=0∨k=1∨k=2∨k=3∨k=4)with rfl|rfl|rfl|rfl|rfl
   ·have g0:=G4.cell 0
    have hI:=hIs wr k4 zn false h4 rfl;rw[show bs zn=⟨#[100,101,118,105,99,101]⟩from rfl]at hI
    go_wp2_with (first
     |((go_at_call 27)
       refine hI.mono ?_;(rintro e w5 ⟨rfl,q5,rfl⟩)))
    go_roundw
    case rel=>exact⟨1,rfl,G4.drewN q5,.inl ⟨by omega,S4.drewN q5⟩⟩
    case measure=>simp[intOf]
   ·have g0:=G4.cell 1
    have hI:=hIs wr k4 zq false h4 rfl;rw[show bs zq=⟨#[106,111,117,114,110,97,108]⟩from rfl]at hI
    go_wp2_with (first
     |((go_at_call 27)
       refine hI.mono ?_;(rintro e w5 ⟨rfl,q5,rfl⟩)))
    go_roundw
    case rel=>exact⟨2,rfl,G4.drewN q5,.inl ⟨by omega,S4.drewN q5⟩⟩
    case measure=>simp[intOf]
   ·have g0:=G4.cell 2
    have hI:=hIs wr k4 zM false h4 rfl;rw[show bs zM=⟨#[107,101,121]⟩from rfl]at hI
    go_wp2_with (first
     |((go_at_call 27)
       refine hI.mono ?_;(rintro e w5 ⟨rfl,q5,rfl⟩)))
    go_roundw
    case rel=>exact⟨3,rfl,G4.drewN q5,.inl ⟨by omega,S4.drewN q5⟩⟩
    case measure=>simp[intOf]
   ·have g0:=G4.cell 3
    have hI:=hIs wr k4 zN false h4 rfl;rw[show bs zN=⟨#[114,111,111,116]⟩from rfl]at hI
    go_wp2_with (first
     |((go_at_call 27)
       refine hI.mono ?_;(rintro e w5 ⟨rfl,q5,rfl⟩)))
    go_roundw
    case rel=>exact⟨4,rfl,G4.drewN q5,.inl ⟨by omega,S4.drewN q5⟩⟩
    case measure=>simp[intOf]
   ·have g0:=G4.cell 4
    have hI:=hIs wr k4 zB true h4 rfl;rw[show bs zB=⟨#[118,111,108,117,109,101]⟩from rfl]at hI
    go_wp2_with (first
     |((go_at_call 27)
       refine hI.mono ?_;(rintro e w5 ⟨rfl,q5,rfl⟩)))
    go_roundw
    case rel=>exact⟨5,rfl,(G4.drewN q5).other (by show w2.heap.size+1≠w2.heap.size;omega) _,.inr ⟨rfl,(S4.drewN q5).put 0 _ _ rfl⟩⟩
    case measure=>simp[intOf]
  ·obtain⟨k4,h4⟩:=S4.at hR
   have q0:=S4.hq.cell 0;have lq:=S4.hq.lt;have S5:=S4.step hi;obtain⟨k5,h5⟩:=S5.at hR;have c4:=h4.has.cell 1;have d4:=h4.has.free 1;have l4:=h4.has.lt;simp only[qH,qG,qI]at c4
   go_wp2_with (first
    |((go_at_call 29)
      refine qN (wr.setCell ⟨rb,1,none⟩ (.int .i64 ((i:Int)+1))) ?_;refine(rname_c' h5).mono ?_;rintro e w5 ⟨i5,b5,⟨⟨tk5,ts5,tn5⟩,ta5⟩,rfl,s5,T5,x5⟩;have S6:=((S5.rst s5).put 1 (.string (bs ts5)) #[.string ⟨#[118,111,108,117,109,101]⟩,.string (bs ts5),.int .i64 0,.int .i64 (at_:Nat),.slice none 0 0] rfl).alloc (.cells #[.int .i64 (tk5:Nat),.string (bs ts5),.int .i64 (tn5:Nat),.int .i64 (ta5:Nat)] 78);obtain⟨k6,h6⟩:=S6.at hR;have q5:=(S5.rst s5).hq.cell 0;have q51:=(S5.rst s5).hq.cell 1;have q52:=(S5.rst s5).hq.cell 2;have q54:=(S5.rst s5).hq.cell 4;have f51:=(S5.rst s5).hq.free 1;have f52:=(S5.rst s5).hq.free 2;have f54:=(S5.rst s5).hq.free 4;have l5:=(S5.rst s5).hq.lt;(have m5:w2.heap.size≠w5.heap.size:=by omega);(simp only[vG]))
    |((go_at_call 31)
      refine qN ((w5.setCell ⟨w2.heap.size,1,none⟩ (.string (bs ts5))).alloc (.cells #[.int .i64 (tk5:Nat),.string (bs ts5),.int .i64 (tn5:Nat),.int .i64 (ta5:Nat)] 78)) ?_;refine(ji h6 [61]).mono ?_;rintro e w7 ⟨rfl,i7,b7,s7,t7,T7⟩;rw[ve hG (by decide)]at T7;have S7:=S6.rst s7;(obtain⟨k7,h7⟩:=S7.at hR))
    |((go_at_call 32)
      refine qN (w7) ?_;refine(zbl hG 12 1 _ _ _ _ rfl h7).mono ?_;rintro e w8 ⟨i8,b8,x8,A8,C8,rfl,N8,s8,T8,l8⟩;have S9:=(((S7.rst s8).put 4 (.slice (some ⟨w8.heap.size+1,0,none⟩) 1 1) #[.string ⟨#[118,111,108,117,109,101]⟩,.string (bs ts5),.int .i64 0,.int .i64 (at_:Nat),.slice (some ⟨w8.heap.size+1,0,none⟩) 1 1] rfl).alloc (.cells #[.string (bs x8.op),.string (bs x8.s),.int .i64 x8.n,.int .i64 x8.a,.slice A8 x8.l.length C8] 24)).alloc (.cells #[.string (bs x8.op),.string (bs x8.s),.int .i64 x8.n,.int .i64 x8.a,.slice A8 x8.l.length C8] 24);obtain⟨k9,h9⟩:=S9.at hR;have H9:zm (((w8.setCell ⟨w2.heap.size,4,none⟩ (.slice (some ⟨w8.heap.size+1,0,none⟩) 1 1)).alloc (.cells #[.string (bs x8.op),.string (bs x8.s),.int .i64 x8.n,.int .i64 x8.a,.slice A8 x8.l.length C8] 24)).alloc (.cells #[.string (bs x8.op),.string (bs x8.s),.int .i64 x8.n,.int .i64 x8.a,.slice A8 x8.l.length C8] 24)) (w8.heap.size+1) 24 #[.string (bs x8.op),.string (bs x8.s),.int .i64 x8.n,.int .i64 x8.a,.slice A8 x8.l.length C8]:=zm.new_at (by simp);have q84:=(S7.rst s8).hq.cell 4;have f84:=(S7.rst s8).hq.free 4;have l8q:=(S7.rst s8).hq.lt;have l7q:=S7.hq.lt;have z8:=s8.2.2.1.size;(have m8:w2.heap.size≠w8.heap.size:=by omega);(have n8:w2.heap.size≠w8.heap.size+1:=by omega);(simp only[qD]))
    |((go_at_call 31)
      refine qN ((((w8.setCell ⟨w2.heap.size,4,none⟩ (.slice (some ⟨w8.heap.size+1,0,none⟩) 1 1)).alloc (.cells #[.string (bs x8.op),.string (bs x8.s),.int .i64 x8.n,.int .i64 x8.a,.slice A8 x8.l.length C8] 24)).alloc (.cells #[.string (bs x8.op),.string (bs x8.s),.int .i64 x8.n,.int .i64 x8.a,.slice A8 x8.l.length C8] 24))) ?_;refine(ji h9 [59]).mono ?_;rintro e w10 ⟨rfl,i10,b10,s10,t10,T10⟩;rw[ve hG (by decide)]at T10;have S10:=S9.rst s10;have p10:=S10.hp.lt;have r10:=S10.hq.lt;have ca0:=S10.hp.cell 0;have ca1:=S10.hp.cell 1;have ca2:=S10.hp.cell 2;have ca3:=S10.hp.cell 3;have ca4:=S10.hp.cell 4;have fa0:=S10.hp.free 0;have fa1:=S10.hp.free 1;have fa2:=S10.hp.free 2;have fa3:=S10.hp.free 3;have fa4:=S10.hp.free 4;have cb0:=S10.hq.cell 0;have cb1:=S10.hq.cell 1;have cb2:=S10.hq.cell 2;have cb3:=S10.hq.cell 3;(have cb4:=S10.hq.cell 4))
    )
   refine jL rfl rfl (S10.hp.set5 _ _ _ _ _) rfl (fin _ _ ?_);refine⟨i10,b10,.mk zB ts5 0 (at_:Nat) [x8],some ⟨w8.heap.size+1,0,none⟩,1,rfl,?_,jQ.set5 S10.st (Nat.le_refl _) hlt _ _ _ _ _,T5.bind ((show qF b5 (xi zB en (ts.drop i5)) ts ((0:Int),[x8]) i8 b8 from T7.bind (f:=λ_=>zU (qA 12) λn=>vD ((0:Int),[n])) (T8.map (λn=>((0:Int),[n])))).bind (T10.map (λ_=>Nd.mk zB ts5 0 (at_:Nat) [x8]))),Nat.le_of_ble_eq_true rfl⟩;exact za2 N8 H9 s10.2.2.1 (by omega) (by omega) (by omega) (by omega)
theorem Gl{w:World}{rb:Nat}{A:Option Addr}{C:Nat}{ts:zL}{i en:Nat}{k:Int}(h:zT w rb A C ts i en 0 k)(hG:xk ts)(hi:i<ts.length)(hk:ts[i].1.kind=0)(hs:ts[i].1.s=qj):Calls Tryz.prog 14 #[.pointer (some ⟨rb,0,none⟩)] w (qT w rb A C ts i en 0 jC):=by
 have hpx:=Xl (en:=en) hi hk hs (by decide);have hlt:=h.has.lt;have hf:=h.few;have hR:=h
 have hB:∀s,v7 0 ts i s=(qj==s):=by
  intro s;unfold v7;rw[jc hi];unfold xe;rw[hk,hs];rfl
 have hIs:∀(W:World) (k:Int) (s:List UInt8) (b:Bool),zT W rb A C ts i en 0 k→(qj==s)=b→Calls Tryz.prog 27 #[.pointer (some ⟨rb,0,none⟩),.string (bs s)] W λe w'=>e= .returned (.bool b)∧∃q,w'=W.drewN q:=by
  intro W k s b h hb;have:=vN h s;rw[hB,hb]at this;exact this
 have hpl:∀W k,zT W rb A C ts i en 0 k→Calls Tryz.prog 26 #[.pointer (some ⟨rb,0,none⟩)] W λe w'=>e= .returned (.int .i64 (ts[i].2:Nat))∧Below W.heap.size W w':=by
  intro W k h;refine(vi h).mono ?_;rintro e w' ⟨rfl,q,rfl⟩;rw[vw hi];exact⟨rfl,j7 (Below.refl _ _) _⟩
 have h0:=h.kp (zl w (.cells #[.string ⟨#[]⟩,.string ⟨#[]⟩,.int .i64 0,.int .i64 0,.slice none 0 0] 24));have fin:∀(e:Ending) (w':World),qT w rb A C ts i en 0 (λ_ _=>jC en (ts.drop i)) e w'→qT w rb A C ts i en 0 jC e w':=λe w' h=>h
 rw[hpx]at fin;generalize ts[i].2=at_ at hpl fin;clear hpx hs hk hB;have hi5:(i:Int)≤500:=by omega
 go_enter Tryz.func14,Tryz.ntmps14
 go_wp2_with (first
  |((go_at_call 26)
    refine(hpl _ _ h0).mono ?_;rintro e w2 ⟨rfl,hb2⟩;have S3:=(Zb (at_:=((at_:Nat):Int)) hR hb2 hlt).alloc (.cells #[.string ⟨#[100,101,118,105,99,101]⟩,.string ⟨#[106,111,117,114,110,97,108]⟩,.string ⟨#[107,101,121]⟩,.string ⟨#[114,111,111,116]⟩,.string ⟨#[118,111,108,117,109,101]⟩,.string ⟨#[101,120,112,111,114,116]⟩] 9);have pq:=S3.pq;(have G3:zm ((w2.alloc (.cells #[.string ⟨#[]⟩,.string ⟨#[]⟩,.int .i64 0,.int .i64 (at_:Nat),.slice none 0 0] 24)).alloc (.cells #[.string ⟨#[100,101,118,105,99,101]⟩,.string ⟨#[106,111,117,114,110,97,108]⟩,.string ⟨#[107,101,121]⟩,.string ⟨#[114,111,111,116]⟩,.string ⟨#[118,111,108,117,109,101]⟩,.string ⟨#[101,120,112,111,114,116]⟩] 9)) (w2.heap.size+1) 9 #[.string ⟨#[100,101,118,105,99,101]⟩,.string ⟨#[106,111,117,114,110,97,108]⟩,.string ⟨#[107,101,121]⟩,.string ⟨#[114,111,111,116]⟩,.string ⟨#[118,111,108,117,109,101]⟩,.string ⟨#[101,120,112,111,114,116]⟩]:=zm.new_at (by simp))))
 go_loopw [5] (λz wr=>∃k:Nat,z= .int .i64 (k:Nat)∧zm wr (w2.heap.size+1) 9 #[.string ⟨#[100,101,118,105,99,101]⟩,.string ⟨#[106,111,117,114,110,97,108]⟩,.string ⟨#[107,101,121]⟩,.string ⟨#[114,111,111,116]⟩,.string ⟨#[118,111,108,117,109,101]⟩,.string ⟨#[101,120,112,111,114,116]⟩]∧((k≤5∧QQ w rb A C ts i en w2.heap.size #[.string ⟨#[]⟩,.string ⟨#[]⟩,.int .i64 0,.int .i64 (at_:Nat),.slice none 0 0] wr i 0)∨(k=6∧QQ w rb A C ts i en w2.heap.size #[.string ⟨#[101,120,112,111,114,116]⟩,.string ⟨#[]⟩,.int .i64 0,.int .i64 (at_:Nat),.slice none 0 0] wr i 0))) (λz _=>7-(intOf z).toNat)
 case atStart=>exact⟨0,rfl,G3,.inl ⟨Nat.zero_le _,S3⟩⟩
 case round =>
  obtain⟨k,rfl,G4,hS⟩:=hrel;have lG4:=G4.lt;rcases hS with⟨hk,S4⟩|⟨rfl,S4⟩
  ·obtain⟨k4,h4⟩:=S4.at hR
   have q0:=S4.hq.cell 0;have f0:=S4.hq.free 0;have lq:=S4.hq.lt;rcases(by omega:k=0∨k=1∨k=2∨k=3∨k=4∨k=5)with rfl|rfl|rfl|rfl|rfl|rfl
   ·have g0:=G4.cell 0
    have hI:=hIs wr k4 zn false h4 rfl;rw[show bs zn=⟨#[100,101,118,105,99,101]⟩from rfl]at hI
    go_wp2_with (first
     |((go_at_call 27)
       refine hI.mono ?_;(rintro e w5 ⟨rfl,q5,rfl⟩)))
    go_roundw
    case rel=>exact⟨1,rfl,G4.drewN q5,.inl ⟨by omega,S4.drewN q5⟩⟩
    case measure=>simp[intOf]
   ·have g0:=G4.cell 1
    have hI:=hIs wr k4 zq false h4 rfl;rw[show bs zq=⟨#[106,111,117,114,110,97,108]⟩from rfl]at hI
    go_wp2_with (first
     |((go_at_call 27)
       refine hI.mono ?_;(rintro e w5 ⟨rfl,q5,rfl⟩)))
    go_roundw
    case rel=>exact⟨2,rfl,G4.drewN q5,.inl ⟨by omega,S4.drewN q5⟩⟩
    case measure=>simp[intOf]
   ·have g0:=G4.cell 2
    have hI:=hIs wr k4 zM false h4 rfl;rw[show bs zM=⟨#[107,101,121]⟩from rfl]at hI
    go_wp2_with (first
     |((go_at_call 27)
       refine hI.mono ?_;(rintro e w5 ⟨rfl,q5,rfl⟩)))
    go_roundw
    case rel=>exact⟨3,rfl,G4.drewN q5,.inl ⟨by omega,S4.drewN q5⟩⟩
    case measure=>simp[intOf]
   ·have g0:=G4.cell 3
    have hI:=hIs wr k4 zN false h4 rfl;rw[show bs zN=⟨#[114,111,111,116]⟩from rfl]at hI
    go_wp2_with (first
     |((go_at_call 27)
       refine hI.mono ?_;(rintro e w5 ⟨rfl,q5,rfl⟩)))
    go_roundw
    case rel=>exact⟨4,rfl,G4.drewN q5,.inl ⟨by omega,S4.drewN q5⟩⟩
    case measure=>simp[intOf]
   ·have g0:=G4.cell 4
    have hI:=hIs wr k4 zB false h4 rfl;rw[show bs zB=⟨#[118,111,108,117,109,101]⟩from rfl]at hI
    go_wp2_with (first
     |((go_at_call 27)
       refine hI.mono ?_;(rintro e w5 ⟨rfl,q5,rfl⟩)))
    go_roundw
    case rel=>exact⟨5,rfl,G4.drewN q5,.inl ⟨by omega,S4.drewN q5⟩⟩
    case measure=>simp[intOf]
   ·have g0:=G4.cell 5
    have hI:=hIs wr k4 qj true h4 rfl;rw[show bs qj=⟨#[101,120,112,111,114,116]⟩from rfl]at hI
    go_wp2_with (first
     |((go_at_call 27)
       refine hI.mono ?_;(rintro e w5 ⟨rfl,q5,rfl⟩)))
    go_roundw
    case rel=>exact⟨6,rfl,(G4.drewN q5).other (by show w2.heap.size+1≠w2.heap.size;omega) _,.inr ⟨rfl,(S4.drewN q5).put 0 _ _ rfl⟩⟩
    case measure=>simp[intOf]
  ·obtain⟨k4,h4⟩:=S4.at hR
   have q0:=S4.hq.cell 0;have lq:=S4.hq.lt;have S5:=S4.step hi;obtain⟨k5,h5⟩:=S5.at hR;have c4:=h4.has.cell 1;have d4:=h4.has.free 1;have l4:=h4.has.lt;simp only[qH,qG,qI]at c4
   go_wp2_with (first
    |((go_at_call 29)
      refine qN (wr.setCell ⟨rb,1,none⟩ (.int .i64 ((i:Int)+1))) ?_;refine(rname_c' h5).mono ?_;rintro e w5 ⟨i5,b5,⟨⟨tk5,ts5,tn5⟩,ta5⟩,rfl,s5,T5,x5⟩;have S6:=((S5.rst s5).put 1 (.string (bs ts5)) #[.string ⟨#[101,120,112,111,114,116]⟩,.string (bs ts5),.int .i64 0,.int .i64 (at_:Nat),.slice none 0 0] rfl).alloc (.cells #[.int .i64 (tk5:Nat),.string (bs ts5),.int .i64 (tn5:Nat),.int .i64 (ta5:Nat)] 78);obtain⟨k6,h6⟩:=S6.at hR;have q5:=(S5.rst s5).hq.cell 0;have q51:=(S5.rst s5).hq.cell 1;have q52:=(S5.rst s5).hq.cell 2;have q54:=(S5.rst s5).hq.cell 4;have f51:=(S5.rst s5).hq.free 1;have f52:=(S5.rst s5).hq.free 2;have f54:=(S5.rst s5).hq.free 4;have l5:=(S5.rst s5).hq.lt;(have m5:w2.heap.size≠w5.heap.size:=by omega);(simp only[vG]))
    )
   have HE:=vN h6 xw;refine HE.mono ?_;rintro e w7 ⟨rfl,q7,rfl⟩;have S7:=S6.drewN q7;generalize ((w5.setCell ⟨w2.heap.size,1,none⟩ (.string (bs ts5))).alloc (.cells #[.int .i64 (tk5:Nat),.string (bs ts5),.int .i64 (tn5:Nat),.int .i64 (ta5:Nat)] 78)).drewN q7=W7 at S7 ⊢;obtain⟨k7,h7⟩:=S7.at hR;have lq7:=S7.hq.lt;have q72:=S7.hq.cell 2;have f72:=S7.hq.free 2;clear HE;cases hc:v7 b5 ts i5 xw
   ·have T8:qF b5 (xi qj en (ts.drop i5)) ts ((0:Int),[]) i5 b5:=by
     show qF b5 (Xy (ZH [xw]) _ _ en (ts.drop i5)) _ _ _ _;rcases Qz hc with e|e
     ·exact qF.bad e e _ _ _ _
     ·unfold Xy
      rw[if_neg]
      ·exact qF.ret _ _ _ _ _
      ·intro e2
       by_cases hj:i5<ts.length
       ·rw[jc hj]at e e2
        unfold ZH at e2;unfold xe at e;simp only[Bool.and_eq_true,beq_iff_eq,List.any_cons,List.any_nil,Bool.or_false]at e2;rw[e2.1,e2.2]at e;simp at e
       ·rw[yL hj]at e2
        cases e2
    go_wp2_with (first
     |((go_at_call 31)
       refine qN (W7) ?_;refine(ji h7 [59]).mono ?_;rintro e w9 ⟨rfl,i9,b9,s9,t9,T9⟩;rw[ve hG (by decide)]at T9;have S9:=S7.rst s9;have p9:=S9.hp.lt;have r9:=S9.hq.lt;have ca0:=S9.hp.cell 0;have ca1:=S9.hp.cell 1;have ca2:=S9.hp.cell 2;have ca3:=S9.hp.cell 3;have ca4:=S9.hp.cell 4;have fa0:=S9.hp.free 0;have fa1:=S9.hp.free 1;have fa2:=S9.hp.free 2;have fa3:=S9.hp.free 3;have fa4:=S9.hp.free 4;have cb0:=S9.hq.cell 0;have cb1:=S9.hq.cell 1;have cb2:=S9.hq.cell 2;have cb3:=S9.hq.cell 3;(have cb4:=S9.hq.cell 4))
     )
    refine jL rfl rfl (S9.hp.set5 _ _ _ _ _) rfl (fin _ _ ?_);refine⟨i9,b9,.mk qj ts5 0 (at_:Nat) [],none,0,rfl,yn.nil _ _,jQ.set5 S9.st (Nat.le_refl _) hlt _ _ _ _ _,T5.bind (T8.bind (T9.map (λ_=>Nd.mk qj ts5 0 (at_:Nat) []))),Nat.le_of_ble_eq_true rfl⟩
   ·obtain⟨rfl,hj,hp⟩:=ZF hc
    have S8:=(S7.step hj).put 2 (.int .i64 1) #[.string ⟨#[101,120,112,111,114,116]⟩,.string (bs ts5),.int .i64 1,.int .i64 (at_:Nat),.slice none 0 0] rfl;obtain⟨k8,h8⟩:=S8.at hR
    have T8:qF 0 (xi qj en (ts.drop i5)) ts ((1:Int),[]) (i5+1) 0:=by
     show qF 0 (Xy (ZH [xw]) _ _ en (ts.drop i5)) _ _ _ _;obtain⟨e1,e2⟩:=XD hG hj (by intro c e;cases e) hp;have hw:ZH [xw] ts[i5].1=true:=by unfold ZH;rw[e1,e2];rfl
     unfold Xy;rw[if_pos (by rw[jc hj];exact hw)];exact(Qm hj hw).map (λ_=>((1:Int),([]:List Nd)))
    have c7:=h7.has.cell 1;have d7:=h7.has.free 1;have l7:=h7.has.lt;simp only[qH,qG,qI]at c7;have hi7:(i5:Int)≤500:=by omega
    go_wp2_with (first
     |((go_at_call 31)
       refine qN ((W7.setCell ⟨rb,1,none⟩ (.int .i64 ((i5:Int)+1))).setCell ⟨w2.heap.size,2,none⟩ (.int .i64 1)) ?_;refine(ji h8 [59]).mono ?_;rintro e w9 ⟨rfl,i9,b9,s9,t9,T9⟩;rw[ve hG (by decide)]at T9;have S9:=S8.rst s9;have p9:=S9.hp.lt;have r9:=S9.hq.lt;have ca0:=S9.hp.cell 0;have ca1:=S9.hp.cell 1;have ca2:=S9.hp.cell 2;have ca3:=S9.hp.cell 3;have ca4:=S9.hp.cell 4;have fa0:=S9.hp.free 0;have fa1:=S9.hp.free 1;have fa2:=S9.hp.free 2;have fa3:=S9.hp.free 3;have fa4:=S9.hp.free 4;have cb0:=S9.hq.cell 0;have cb1:=S9.hq.cell 1;have cb2:=S9.hq.cell 2;have cb3:=S9.hq.cell 3;(have cb4:=S9.hq.cell 4))
     )
    refine jL rfl rfl (S9.hp.set5 _ _ _ _ _) rfl (fin _ _ ?_);refine⟨i9,b9,.mk qj ts5 1 (at_:Nat) [],none,0,rfl,yn.nil _ _,jQ.set5 S9.st (Nat.le_refl _) hlt _ _ _ _ _,T5.bind (T8.bind (T9.map (λ_=>Nd.mk qj ts5 1 (at_:Nat) []))),Nat.le_of_ble_eq_true rfl⟩
theorem dZ{w:World}{rb:Nat}{A:Option Addr}{C:Nat}{ts:zL}{i en:Nat}{k:Int}(h:zT w rb A C ts i en 0 k)(hG:xk ts)(hn:∀hi:i<ts.length,ts[i].1.kind=0→ts[i].1.s ∉ xF):Calls Tryz.prog 14 #[.pointer (some ⟨rb,0,none⟩)] w (qT w rb A C ts i en 0 jC):=by
 obtain⟨er,hpx⟩:=zcS (en:=en) hn;have hlt:=h.has.lt;have hR:=h
 have hB:∀s ∈ STS,v7 0 ts i s=false:=by
  intro s hs;cases hc:v7 0 ts i s with
  |false=>rfl
  |true =>
   obtain⟨_,hi,hp⟩:=ZF hc
   obtain⟨e1,e2⟩:=XD hG hi (by
    intro c e;rw[e]at hs;simp only[STS,List.mem_cons,List.not_mem_nil,or_false]at hs
    rcases hs with q|q|q|q|q|q<;>cases q) hp
   exact absurd (by rw[e2];exact hs) (hn hi e1)
 have hIs:∀(W:World) (k:Int) (s:List UInt8),zT W rb A C ts i en 0 k→s ∈ STS→Calls Tryz.prog 27 #[.pointer (some ⟨rb,0,none⟩),.string (bs s)] W λe w'=>e= .returned (.bool false)∧∃q,w'=W.drewN q:=by
  intro W k s h hs;have:=vN h s;rw[hB s hs]at this;exact this
 have hpl:∀W k,zT W rb A C ts i en 0 k→Calls Tryz.prog 26 #[.pointer (some ⟨rb,0,none⟩)] W λe w'=>e= .returned (.int .i64 (place en (ts.drop i):Nat))∧Below W.heap.size W w':=by
  intro W k h;refine(vi h).mono ?_;rintro e w' ⟨rfl,q,rfl⟩;exact⟨rfl,j7 (Below.refl _ _) _⟩
 have h0:=h.kp (zl w (.cells #[.string ⟨#[]⟩,.string ⟨#[]⟩,.int .i64 0,.int .i64 0,.slice none 0 0] 24));generalize place en (ts.drop i)=at_ at hpl;clear hB;go_enter Tryz.func14,Tryz.ntmps14
 go_wp2_with (first
  |((go_at_call 26)
    refine(hpl _ _ h0).mono ?_;rintro e w2 ⟨rfl,hb2⟩;have S3:=(Zb (at_:=((at_:Nat):Int)) hR hb2 hlt).alloc (.cells #[.string ⟨#[100,101,118,105,99,101]⟩,.string ⟨#[106,111,117,114,110,97,108]⟩,.string ⟨#[107,101,121]⟩,.string ⟨#[114,111,111,116]⟩,.string ⟨#[118,111,108,117,109,101]⟩,.string ⟨#[101,120,112,111,114,116]⟩] 9);have pq:=S3.pq;(have G3:zm ((w2.alloc (.cells #[.string ⟨#[]⟩,.string ⟨#[]⟩,.int .i64 0,.int .i64 (at_:Nat),.slice none 0 0] 24)).alloc (.cells #[.string ⟨#[100,101,118,105,99,101]⟩,.string ⟨#[106,111,117,114,110,97,108]⟩,.string ⟨#[107,101,121]⟩,.string ⟨#[114,111,111,116]⟩,.string ⟨#[118,111,108,117,109,101]⟩,.string ⟨#[101,120,112,111,114,116]⟩] 9)) (w2.heap.size+1) 9 zbM:=zm.new_at (by simp))))
 go_loopw [5] (λz wr=>∃k:Nat,k≤6∧z= .int .i64 (k:Nat)∧zm wr (w2.heap.size+1) 9 zbM∧QQ w rb A C ts i en w2.heap.size #[.string ⟨#[]⟩,.string ⟨#[]⟩,.int .i64 0,.int .i64 (at_:Nat),.slice none 0 0] wr i 0) (λz _=>7-(intOf z).toNat)
 case atStart=>exact⟨0,Nat.zero_le _,rfl,G3,S3⟩
 case round =>
  obtain⟨k,hk6,rfl,G4,S4⟩:=hrel;have lG4:=G4.lt;obtain⟨k4,h4⟩:=S4.at hR;have q0:=S4.hq.cell 0;have lq:=S4.hq.lt;by_cases hk:k<6
  ·have hc:wr.cell? ⟨w2.heap.size+1,k,none⟩=some (.string (bs (STS[k]'hk))):=by rw[G4.cell];exact De k hk
   have hI:=hIs wr k4 (STS[k]'hk) h4 (List.getElem_mem _);generalize STS[k]'hk=y at hc hI
   go_wp2_with (first
    |((go_at_call 27)
      refine hI.mono ?_;(rintro e w5 ⟨rfl,q5,rfl⟩)))
   go_roundw
   case rel=>exact⟨k+1,by omega,by go_num,G4.drewN q5,S4.drewN q5⟩
   case measure=>simp[intOf];omega
  ·obtain rfl:k=6:=by omega
   go_wp2_with (first
    |((go_at_call 28)
      refine(Jp h4 111 (by decide)).mono ?_;rintro e w5 ⟨rfl,b5,k5,hb5,h5,hk5⟩;have S5:=S4.rst (jQ.of (Nat.le_refl _) hk5 h5);have p5:=S5.hp.lt;have r5:=S5.hq.lt;have ca0:=S5.hp.cell 0;have ca1:=S5.hp.cell 1;have ca2:=S5.hp.cell 2;have ca3:=S5.hp.cell 3;have ca4:=S5.hp.cell 4;have fa0:=S5.hp.free 0;have fa1:=S5.hp.free 1;have fa2:=S5.hp.free 2;have fa3:=S5.hp.free 3;have fa4:=S5.hp.free 4;have cb0:=S5.hq.cell 0;have cb1:=S5.hq.cell 1;have cb2:=S5.hq.cell 2;have cb3:=S5.hq.cell 3;(have cb4:=S5.hq.cell 4)))
   refine jL rfl rfl (S5.hp.set5 _ _ _ _ _) rfl ?_;exact⟨i,b5,.mk [] [] 0 (at_:Nat) [],none,0,rfl,yn.nil _ _,jQ.set5 S5.st (Nat.le_refl _) hlt _ _ _ _ _,qF.err hpx hb5 _ _ _,Nat.zero_le _⟩
theorem zbh{w:World}{rb:Nat}{A:Option Addr}{C:Nat}{ts:zL}{i en:Nat}{k:Int}(h:zT w rb A C ts i en 0 k)(hG:xk ts):Calls Tryz.prog 14 #[.pointer (some ⟨rb,0,none⟩)] w (qT w rb A C ts i en 0 jC):=by
 by_cases hw:∃hi:i<ts.length,ts[i].1.kind=0∧ts[i].1.s ∈ xF
 ·obtain⟨hi,hk,hm⟩:=hw
  simp only[xF,List.mem_cons,List.not_mem_nil,or_false]at hm;rcases hm with e|e|e|e|e|e
  ·exact uW h hG hi hk e
  ·exact UM h hG hi hk e
  ·exact zaN h hG hi hk e
  ·exact Hr h hG hi hk e
  ·exact uz h hG hi hk e
  ·exact Gl h hG hi hk e
 ·exact dZ h hG λhi hk hm=>hw ⟨hi,hk,hm⟩
end
end Go.Proofs.YteaddcdpgcgggaaGreatDoor
