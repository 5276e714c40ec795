import Derived.Test.YtgljdaakdpgpkaaGreatDoorJoint11
import Derived.Test.YtgljdaakdpgpkaaGreatDoorJoint01
import Derived.Test.YtgljdaakdpgpkaaGreatDoorJoint08
import Derived.Test.YtgljdaakdpgpkaaGreatDoorJoint03
namespace Go.Proofs.YtgljdaakdpgpkaaGreatDoor
set_option linter.unusedVariables false
set_option maxRecDepth 100000
set_option maxHeartbeats 40000000
section
open Go.ChangeShapes Go.WideShapes Go.ChangeAt Go.RowKit Go.MapKept
variable {E:Nat→Prop}
theorem kZ{w0 w:World}{cb:Nat}{V:CV}{c:Ck}(h:zG E w cb V c)(n:Nd)(A:Option Addr)(C:Nat)(hr:j0 w0 n A C)(hcb:w0.heap.size≤cb-1)(hb0:Below w0.heap.size w0 w)(hx:JB n)(hnm:vI c.names c.parts)(hby:∀x ∈ c.names,x.2.bytes.length≤1000)(hdv:c.devs.length≤90000)(hnl:c.names.length≤90000)(ho:n.op=zH):Calls Tryz.prog 37 #[.pointer (some ⟨cb,0,none⟩),.agg (qa n (.slice A n.l.length C))] w (UM E w cb V (qX c n)):=by
 obtain⟨L,hL⟩:∃L,L=n.l.length:=⟨_,rfl⟩
 have HL:=zk hL
 obtain⟨W1,hW1⟩:∃W1,W1=w.alloc (.cells #[.string (bs n.op),.string (bs n.s),.int .i64 n.n,.int .i64 n.a,.slice A L C] 24):=⟨_,rfl⟩
 have hb1:Below w.heap.size w W1:=by rw[hW1];exact zh w _
 have N1:zi W1 w.heap.size 24 #[.string (bs n.op),.string (bs n.s),.int .i64 n.n,.int .i64 n.a,.slice A L C]:=by rw[hW1];exact zi.new w _ _
 have h1:zG E W1 cb V c:=h.keep hb1;have HW:=zk hW1;have lcb:=h.has.lt;have hot:=zp n.op;have f0:(n.op== [101,120,112,111,114,116])=true:=by rw[ho];decide
 have HR:=zk (show qX c n=vw c n by unfold qX;rw[if_pos ho]);have hex:=GB h1 n A L C hnm;rw[←hL];clear hW1 hL ho;unfold qa at hex ⊢;rw[HW.out]at hex;go_enter Tryz.func37,Tryz.ntmps37;cases hR:vw c n with
 |error er =>
  obtain⟨ec,ek⟩:=er;rw[hR]at hex;have HR:=zk (HR.out.trans hR);clear hR
  go_wp2_with (first
   |((go_at_call 62)
     refine hex.mono ?_;(rintro e w5 ⟨ho5,rfl⟩)))
  rw[←HW.out]at ho5;exact⟨rfl,(j9.of hb1).trans ho5,by rw[HR.out]⟩
 |ok c' =>
  rw[hR]at hex;have HR:=zk (HR.out.trans hR);clear hR
  go_wp2_with (first
   |((go_at_call 62)
     refine hex.mono ?_;(rintro e w5 ⟨ho5,rfl,V5,H5,S5⟩)))
  rw[←HW.out]at S5 H5;have S05:=(qT.of (cb:=cb) (V:=V) hb1).trans S5
  go_end0
  refine⟨S05.only,?_⟩;rw[HR.out]
  exact⟨rfl,V5,H5.mono (λg _ _ he=>by
   rcases he with he|he
   ·exact .inl he
   ·exact .inr (Nat.le_trans hb1.size he)),S05⟩
theorem G5{w0 w:World}{cb:Nat}{V:CV}{c:Ck}(h:zG E w cb V c)(n:Nd)(A:Option Addr)(C:Nat)(hr:j0 w0 n A C)(hcb:w0.heap.size≤cb-1)(hb0:Below w0.heap.size w0 w)(hx:JB n)(hnm:vI c.names c.parts)(hby:∀x ∈ c.names,x.2.bytes.length≤1000)(hdv:c.devs.length≤90000)(hnl:c.names.length≤90000)(ho:n.op≠zH)(hlk:(lk c.names n.s).isSome=true):Calls Tryz.prog 37 #[.pointer (some ⟨cb,0,none⟩),.agg (qa n (.slice A n.l.length C))] w (UM E w cb V (qX c n)):=by
 obtain⟨L,hL⟩:∃L,L=n.l.length:=⟨_,rfl⟩
 have HL:=zk hL
 obtain⟨W1,hW1⟩:∃W1,W1=w.alloc (.cells #[.string (bs n.op),.string (bs n.s),.int .i64 n.n,.int .i64 n.a,.slice A L C] 24):=⟨_,rfl⟩
 have hb1:Below w.heap.size w W1:=by rw[hW1];exact zh w _
 have N1:zi W1 w.heap.size 24 #[.string (bs n.op),.string (bs n.s),.int .i64 n.n,.int .i64 n.a,.slice A L C]:=by rw[hW1];exact zi.new w _ _
 have h1:zG E W1 cb V c:=h.keep hb1;have HW:=zk hW1;have lcb:=h.has.lt;have hot:=zp n.op;obtain⟨us,e1,hmb0,hin⟩:=h.nms;have hmb:=(hb1.block V.mb (Array.getElem?_eq_some_iff.1 hmb0).1).trans hmb0;have hun:=h1.uniq;have c5:=h1.has.cell 5;have nc1:=N1.cell 1;simp only[qt,qu,qr]at c5 nc1;have f0:(n.op== [101,120,112,111,114,116])=false:=by rw[beq_eq_false_iff_ne];exact ho
 have HR:=zk (show qX c n= .error (132,n.a) by unfold qX;rw[if_neg ho,if_pos hlk]);cases hk:lk c.names n.s with
 |none=>rw[hk]at hlk;cases hlk
 |some m =>
  obtain⟨i,hi,e2,e3⟩:∃i,∃hi:i<c.names.length,c.names[i].1=n.s∧c.names[i].2=m:=by
   rcases YG (ns:=c.names) (s:=n.s)with⟨q,_⟩|⟨i,hi,q1,q2,_⟩
   ·rw[hk]at q;cases q
   ·exact⟨i,hi,q1,by rw[hk]at q2;cases q2;rfl⟩
  obtain⟨Am,Cm,em,am,bm,hbyt⟩:=(hin i hi (by omega)).bytes
  have HU:Hid (gy c.names us n.s= .agg #[.string (bs m.word),.int .i64 (m.node:Nat),.slice Am m.bytes.length Cm]):=by
   have:=Ko e1 hun hi;rw[e2,em,e3]at this;exact this
  have HB:=zk hlk;rw[←hL];clear hk em hin hlk hW1 hL ho e2 e3;unfold qa;go_enter Tryz.func37,Tryz.ntmps37
  go_wp2
  rw[←HW.out];refine wp_region_held_drew (S:=λwz=>wz.cell? ⟨cb,5,none⟩=some (.map (some V.mb))∧wz.cell? ⟨w.heap.size,1,none⟩=some (.string (bs n.s))∧wz.heap[V.mb]?=some (.map (ja c.names us).toArray c.names.length)∧Below W1.heap.size W1 wz) (by kernel_rfl) (⟨c5,nc1,hmb,(Below.refl _ W1).drew⟩) (λhHeld=>?_);refine zC 0 (some 14) (.pointer (some ⟨cb,0,none⟩)) hHeld ?_;simp only[Act.put,ze,zg,zf];refine zC 1 (some 15) (.pointer (some ⟨cb,0,none⟩)) hHeld ?_;simp only[Act.put,ze,zg,zf];refine zC 2 (some 16) (.pointer (some ⟨cb,5,none⟩)) hHeld ?_;simp only[Act.put,ze,zg,zf];refine zP 3 (some 17) (.map (some V.mb)) rfl rfl (λwz hz=>by obtain⟨z0,z1,z2,z3⟩:=hz;unfold execOp;go_simp) hHeld ?_;simp only[Act.put,ze,zg,zf];refine zC 4 (some 18) (.pointer (some ⟨w.heap.size,1,none⟩)) hHeld ?_;simp only[Act.put,ze,zg,zf];refine zP 5 (some 19) (.string (bs n.s)) rfl rfl (λwz hz=>by obtain⟨z0,z1,z2,z3⟩:=hz;unfold execOp;go_simp) hHeld ?_;simp only[Act.put,ze,zg,zf];refine zP 6 (some 20) (.tuple #[.agg #[.string (bs m.word),.int .i64 (m.node:Nat),.slice Am m.bytes.length Cm],.bool true]) rfl rfl (λwz hz=>(y4 _ _ rfl hz.2.2.1 e1 hun n.s rfl rfl).trans (by rw[HU.out,HB.out])) hHeld ?_;simp only[Act.put,ze,zg,zf];refine zC 7 (some 13) (.tuple #[.agg #[.string (bs m.word),.int .i64 (m.node:Nat),.slice Am m.bytes.length Cm],.bool true]) hHeld ?_;simp only[Act.put,ze,zg,zf];refine zC 8 (some 21) (.agg #[.string (bs m.word),.int .i64 (m.node:Nat),.slice Am m.bytes.length Cm]) hHeld ?_;simp only[Act.put,ze,zg,zf];refine zC 9 (some 22) (.bool true) hHeld ?_;simp only[Act.put,ze,zg,zf]
  have hH2:(W1.drew.alloc (.cells #[.string ⟨#[]⟩,.int .i64 0,.slice none 0 0] 111)).cell? ⟨cb,5,none⟩=some (.map (some V.mb))∧(W1.drew.alloc (.cells #[.string ⟨#[]⟩,.int .i64 0,.slice none 0 0] 111)).cell? ⟨w.heap.size,1,none⟩=some (.string (bs n.s))∧(W1.drew.alloc (.cells #[.string ⟨#[]⟩,.int .i64 0,.slice none 0 0] 111)).heap[V.mb]?=some (.map (ja c.names us).toArray c.names.length)∧Below W1.heap.size W1 (W1.drew.alloc (.cells #[.string ⟨#[]⟩,.int .i64 0,.slice none 0 0] 111)):=⟨za (zh W1.drew _) hHeld.1,za (zh W1.drew _) hHeld.2.1,(Below.heap_alloc W1.drew _ V.mb (Array.getElem?_eq_some_iff.1 hmb).1).trans hHeld.2.2.1,hHeld.2.2.2.trans ((zh W1.drew _))⟩
  refine yh 10 (by kernel_rfl) (xT (some 4) (.pointer (some ⟨W1.heap.size,0,none⟩)) (W1.drew.alloc (.cells #[.string ⟨#[]⟩,.int .i64 0,.slice none 0 0] 111)) rfl rfl (by rfl) (by kernel_rfl) ⟨hH2,?_⟩);simp only[Act.put,ze,zg,zf];have hM2:zi (W1.drew.alloc (.cells #[.string ⟨#[]⟩,.int .i64 0,.slice none 0 0] 111)) W1.heap.size 111 #[.string ⟨#[]⟩,.int .i64 0,.slice none 0 0]:=zi.new_at rfl;have hBel:Below W1.heap.size W1 ((W1.drew.alloc (.cells #[.string ⟨#[]⟩,.int .i64 0,.slice none 0 0] 111)).setRow W1.heap.size #[.string (bs m.word),.int .i64 (m.node:Nat),.slice Am m.bytes.length Cm]):=jW hH2.2.2.2 (Nat.le_refl _) _
  have hH3:((W1.drew.alloc (.cells #[.string ⟨#[]⟩,.int .i64 0,.slice none 0 0] 111)).setRow W1.heap.size #[.string (bs m.word),.int .i64 (m.node:Nat),.slice Am m.bytes.length Cm]).cell? ⟨cb,5,none⟩=some (.map (some V.mb))∧((W1.drew.alloc (.cells #[.string ⟨#[]⟩,.int .i64 0,.slice none 0 0] 111)).setRow W1.heap.size #[.string (bs m.word),.int .i64 (m.node:Nat),.slice Am m.bytes.length Cm]).cell? ⟨w.heap.size,1,none⟩=some (.string (bs n.s))∧((W1.drew.alloc (.cells #[.string ⟨#[]⟩,.int .i64 0,.slice none 0 0] 111)).setRow W1.heap.size #[.string (bs m.word),.int .i64 (m.node:Nat),.slice Am m.bytes.length Cm]).heap[V.mb]?=some (.map (ja c.names us).toArray c.names.length)∧Below W1.heap.size W1 ((W1.drew.alloc (.cells #[.string ⟨#[]⟩,.int .i64 0,.slice none 0 0] 111)).setRow W1.heap.size #[.string (bs m.word),.int .i64 (m.node:Nat),.slice Am m.bytes.length Cm]):=⟨za hBel c5,za hBel nc1,(hBel.block V.mb (Array.getElem?_eq_some_iff.1 hmb).1).trans hmb,hBel⟩
  refine yh 11 (by kernel_rfl) (yZ none ((W1.drew.alloc (.cells #[.string ⟨#[]⟩,.int .i64 0,.slice none 0 0] 111)).setRow W1.heap.size #[.string (bs m.word),.int .i64 (m.node:Nat),.slice Am m.bytes.length Cm]) rfl rfl (by rfl) (jp 111 _ _ rfl W1.heap.size rfl #[.string (bs m.word),.int .i64 (m.node:Nat),.slice Am m.bytes.length Cm] rfl 111 (by kernel_rfl) _ hM2 rfl (by kernel_rfl)) ⟨hH3,?_⟩);simp only[Act.put];refine zP 12 (some 5) (.bool true) rfl rfl (λ_ _=>rfl) hH3 ?_;simp only[Act.put,ze,zg,zf];refine wpAnyH_done (by kernel_rfl) ?_ _;clear hM2 hH3 hH2 hHeld;generalize ((W1.drew.alloc (.cells #[.string ⟨#[]⟩,.int .i64 0,.slice none 0 0] 111)).setRow W1.heap.size #[.string (bs m.word),.int .i64 (m.node:Nat),.slice Am m.bytes.length Cm])=W2 at *;have N2:=N1.below hBel N1.lt;have b0:=N2.cell 0;have b1:=N2.cell 1;have b2:=N2.cell 2;have b3:=N2.cell 3;have b4:=N2.cell 4;have bl:=N2.lt;simp only[qt,qu,qr]at b0 b1 b2 b3 b4
  go_wp2_with (first
   |((go_at_call 63)
     refine(qx 132 n.a W2).mono ?_;rintro e w3 ⟨rfl,hw3⟩;(obtain rfl:W2=w3:=hw3.symm)))
  exact⟨rfl,j9.of (hb1.trans (hBel.mono hb1.size)),by rw[HR.out];rfl⟩
theorem FN{w0 w:World}{cb:Nat}{V:CV}{c:Ck}(h:zG E w cb V c)(n:Nd)(A:Option Addr)(C:Nat)(hr:j0 w0 n A C)(hcb:w0.heap.size≤cb-1)(hb0:Below w0.heap.size w0 w)(hx:JB n)(hnm:vI c.names c.parts)(hby:∀x ∈ c.names,x.2.bytes.length≤1000)(hdv:c.devs.length≤90000)(hnl:c.names.length≤90000)(ho:n.op≠zH)(hlk:lk c.names n.s=none)(hfu:full c.names n.op=true):Calls Tryz.prog 37 #[.pointer (some ⟨cb,0,none⟩),.agg (qa n (.slice A n.l.length C))] w (UM E w cb V (qX c n)):=by
 obtain⟨L,hL⟩:∃L,L=n.l.length:=⟨_,rfl⟩
 have HL:=zk hL
 obtain⟨W1,hW1⟩:∃W1,W1=w.alloc (.cells #[.string (bs n.op),.string (bs n.s),.int .i64 n.n,.int .i64 n.a,.slice A L C] 24):=⟨_,rfl⟩
 have hb1:Below w.heap.size w W1:=by rw[hW1];exact zh w _
 have N1:zi W1 w.heap.size 24 #[.string (bs n.op),.string (bs n.s),.int .i64 n.n,.int .i64 n.a,.slice A L C]:=by rw[hW1];exact zi.new w _ _
 have h1:zG E W1 cb V c:=h.keep hb1;have HW:=zk hW1;have lcb:=h.has.lt;have hot:=zp n.op;obtain⟨us,e1,hmb0,hin⟩:=h.nms;have hmb:=(hb1.block V.mb (Array.getElem?_eq_some_iff.1 hmb0).1).trans hmb0;have hun:=h1.uniq;have c5:=h1.has.cell 5;have nc1:=N1.cell 1;simp only[qt,qu,qr]at c5 nc1;have f0:(n.op== [101,120,112,111,114,116])=false:=by rw[beq_eq_false_iff_ne];exact ho
 have HR:=zk (show qX c n= .error (137,n.a) by unfold qX;rw[if_neg ho,if_neg (by rw[hlk];decide),if_pos hfu]);have HU:Hid (gy c.names us n.s= .agg #[.string ⟨#[]⟩,.int .i64 0,.slice none 0 0]):=ZJ hlk;have HB:=zk (show(lk c.names n.s).isSome=false by rw[hlk];rfl);have HFC:=zk (λw2 (hb:Below W1.heap.size W1 w2)=>U9 (h1.keep hb) n.op (by rcases hx.word with e|e|e|e|e|e;exact .inl e;exact .inr (.inl e);exact .inr (.inr (.inl e));exact .inr (.inr (.inr (.inl e)));exact .inr (.inr (.inr (.inr e)));exact absurd e ho));rw[hfu]at HFC;rw[←hL];clear hin hlk hW1 hL ho hfu;unfold qa;go_enter Tryz.func37,Tryz.ntmps37
 go_wp2
 rw[←HW.out];refine wp_region_held_drew (S:=λwz=>wz.cell? ⟨cb,5,none⟩=some (.map (some V.mb))∧wz.cell? ⟨w.heap.size,1,none⟩=some (.string (bs n.s))∧wz.heap[V.mb]?=some (.map (ja c.names us).toArray c.names.length)∧Below W1.heap.size W1 wz) (by kernel_rfl) (⟨c5,nc1,hmb,(Below.refl _ W1).drew⟩) (λhHeld=>?_);refine zC 0 (some 14) (.pointer (some ⟨cb,0,none⟩)) hHeld ?_;simp only[Act.put,ze,zg,zf];refine zC 1 (some 15) (.pointer (some ⟨cb,0,none⟩)) hHeld ?_;simp only[Act.put,ze,zg,zf];refine zC 2 (some 16) (.pointer (some ⟨cb,5,none⟩)) hHeld ?_;simp only[Act.put,ze,zg,zf];refine zP 3 (some 17) (.map (some V.mb)) rfl rfl (λwz hz=>by obtain⟨z0,z1,z2,z3⟩:=hz;unfold execOp;go_simp) hHeld ?_;simp only[Act.put,ze,zg,zf];refine zC 4 (some 18) (.pointer (some ⟨w.heap.size,1,none⟩)) hHeld ?_;simp only[Act.put,ze,zg,zf];refine zP 5 (some 19) (.string (bs n.s)) rfl rfl (λwz hz=>by obtain⟨z0,z1,z2,z3⟩:=hz;unfold execOp;go_simp) hHeld ?_;simp only[Act.put,ze,zg,zf];refine zP 6 (some 20) (.tuple #[.agg #[.string ⟨#[]⟩,.int .i64 0,.slice none 0 0],.bool false]) rfl rfl (λwz hz=>(y4 _ _ rfl hz.2.2.1 e1 hun n.s rfl rfl).trans (by rw[HU.out,HB.out])) hHeld ?_;simp only[Act.put,ze,zg,zf];refine zC 7 (some 13) (.tuple #[.agg #[.string ⟨#[]⟩,.int .i64 0,.slice none 0 0],.bool false]) hHeld ?_;simp only[Act.put,ze,zg,zf];refine zC 8 (some 21) (.agg #[.string ⟨#[]⟩,.int .i64 0,.slice none 0 0]) hHeld ?_;simp only[Act.put,ze,zg,zf];refine zC 9 (some 22) (.bool false) hHeld ?_;simp only[Act.put,ze,zg,zf]
 have hH2:(W1.drew.alloc (.cells #[.string ⟨#[]⟩,.int .i64 0,.slice none 0 0] 111)).cell? ⟨cb,5,none⟩=some (.map (some V.mb))∧(W1.drew.alloc (.cells #[.string ⟨#[]⟩,.int .i64 0,.slice none 0 0] 111)).cell? ⟨w.heap.size,1,none⟩=some (.string (bs n.s))∧(W1.drew.alloc (.cells #[.string ⟨#[]⟩,.int .i64 0,.slice none 0 0] 111)).heap[V.mb]?=some (.map (ja c.names us).toArray c.names.length)∧Below W1.heap.size W1 (W1.drew.alloc (.cells #[.string ⟨#[]⟩,.int .i64 0,.slice none 0 0] 111)):=⟨za (zh W1.drew _) hHeld.1,za (zh W1.drew _) hHeld.2.1,(Below.heap_alloc W1.drew _ V.mb (Array.getElem?_eq_some_iff.1 hmb).1).trans hHeld.2.2.1,hHeld.2.2.2.trans ((zh W1.drew _))⟩
 refine yh 10 (by kernel_rfl) (xT (some 4) (.pointer (some ⟨W1.heap.size,0,none⟩)) (W1.drew.alloc (.cells #[.string ⟨#[]⟩,.int .i64 0,.slice none 0 0] 111)) rfl rfl (by rfl) (by kernel_rfl) ⟨hH2,?_⟩);simp only[Act.put,ze,zg,zf];have hM2:zi (W1.drew.alloc (.cells #[.string ⟨#[]⟩,.int .i64 0,.slice none 0 0] 111)) W1.heap.size 111 #[.string ⟨#[]⟩,.int .i64 0,.slice none 0 0]:=zi.new_at rfl;have hBel:Below W1.heap.size W1 ((W1.drew.alloc (.cells #[.string ⟨#[]⟩,.int .i64 0,.slice none 0 0] 111)).setRow W1.heap.size #[.string ⟨#[]⟩,.int .i64 0,.slice none 0 0]):=jW hH2.2.2.2 (Nat.le_refl _) _
 have hH3:((W1.drew.alloc (.cells #[.string ⟨#[]⟩,.int .i64 0,.slice none 0 0] 111)).setRow W1.heap.size #[.string ⟨#[]⟩,.int .i64 0,.slice none 0 0]).cell? ⟨cb,5,none⟩=some (.map (some V.mb))∧((W1.drew.alloc (.cells #[.string ⟨#[]⟩,.int .i64 0,.slice none 0 0] 111)).setRow W1.heap.size #[.string ⟨#[]⟩,.int .i64 0,.slice none 0 0]).cell? ⟨w.heap.size,1,none⟩=some (.string (bs n.s))∧((W1.drew.alloc (.cells #[.string ⟨#[]⟩,.int .i64 0,.slice none 0 0] 111)).setRow W1.heap.size #[.string ⟨#[]⟩,.int .i64 0,.slice none 0 0]).heap[V.mb]?=some (.map (ja c.names us).toArray c.names.length)∧Below W1.heap.size W1 ((W1.drew.alloc (.cells #[.string ⟨#[]⟩,.int .i64 0,.slice none 0 0] 111)).setRow W1.heap.size #[.string ⟨#[]⟩,.int .i64 0,.slice none 0 0]):=⟨za hBel c5,za hBel nc1,(hBel.block V.mb (Array.getElem?_eq_some_iff.1 hmb).1).trans hmb,hBel⟩
 refine yh 11 (by kernel_rfl) (yZ none ((W1.drew.alloc (.cells #[.string ⟨#[]⟩,.int .i64 0,.slice none 0 0] 111)).setRow W1.heap.size #[.string ⟨#[]⟩,.int .i64 0,.slice none 0 0]) rfl rfl (by rfl) (jp 111 _ _ rfl W1.heap.size rfl #[.string ⟨#[]⟩,.int .i64 0,.slice none 0 0] rfl 111 (by kernel_rfl) _ hM2 rfl (by kernel_rfl)) ⟨hH3,?_⟩);simp only[Act.put];refine zP 12 (some 5) (.bool false) rfl rfl (λ_ _=>rfl) hH3 ?_;simp only[Act.put,ze,zg,zf];refine wpAnyH_done (by kernel_rfl) ?_ _;clear hM2 hH3 hH2 hHeld;generalize ((W1.drew.alloc (.cells #[.string ⟨#[]⟩,.int .i64 0,.slice none 0 0] 111)).setRow W1.heap.size #[.string ⟨#[]⟩,.int .i64 0,.slice none 0 0])=W2 at *;have N2:=N1.below hBel N1.lt;have b0:=N2.cell 0;have b1:=N2.cell 1;have b2:=N2.cell 2;have b3:=N2.cell 3;have b4:=N2.cell 4;have bl:=N2.lt;simp only[qt,qu,qr]at b0 b1 b2 b3 b4
 go_wp2_with (first
  |((go_at_call 63)
    refine(zX 132 n.a W2).mono ?_;rintro e w3 ⟨rfl,hw3⟩;(obtain rfl:W2=w3:=hw3.symm)))
 have hfc:=λw2 (hb:Below W2.heap.size W2 w2)=>HFC.out w2 (hBel.trans (hb.mono hBel.size))
 refine wp_region_held_drew (S:=λwz=>Below W2.heap.size W2 wz) (by kernel_rfl) ((Below.refl _ W2).drew) (λhHeld=>?_);refine zC 0 (some 28) (.pointer (some ⟨cb,0,none⟩)) hHeld ?_;simp only[Act.put,ze,zg,zf];refine zC 1 (some 29) (.pointer (some ⟨w.heap.size,0,none⟩)) hHeld ?_;simp only[Act.put,ze,zg,zf];refine zP 2 (some 30) (.string (bs n.op)) rfl rfl (λwz hz=>by have z0:=za hz b0;unfold execOp;go_simp) hHeld ?_;simp only[Act.put,ze,zg,zf];refine zC 5 (some 33) (.pointer (some ⟨w.heap.size,3,none⟩)) hHeld ?_;simp only[Act.put,ze,zg,zf];refine zP 6 (some 34) (.int .i64 n.a) rfl rfl (λwz hz=>by have z0:=za hz b3;unfold execOp;go_simp) hHeld ?_;simp only[Act.put,ze,zg,zf];refine qn 3 (some 31) 64 #[.pointer (some ⟨cb,0,none⟩),.string (bs n.op)] (by kernel_rfl) rfl rfl (by rfl) (by kernel_rfl) (hfc _ (zm (Below.refl _ W2))) ?_;rintro e w4 ⟨rfl,hb4'⟩;have hb4:Below W2.heap.size W2 w4:=(zm (Below.refl _ W2)).trans hb4';refine .inl ⟨_,rfl,hb4,?_⟩;simp only[Act.put,ze,zg,zf];refine zP 4 (some 32) (.bool false) rfl rfl (λ_ _=>rfl) hb4 ?_;simp only[Act.put,ze,zg,zf];refine qn 7 (some 35) 63 #[.bool false,.int .i64 137,.int .i64 n.a] (by kernel_rfl) rfl rfl (by rfl) (by kernel_rfl) (qx 137 n.a w4) ?_;rintro e w5 ⟨rfl,rfl⟩;refine .inr ⟨_,rfl,?_⟩;exact⟨rfl,j9.of ((hb1.trans (hBel.mono hb1.size)).trans (hb4.mono (Nat.le_trans hb1.size hBel.size))),by rw[HR.out];rfl⟩
theorem gW{w0 w:World}{cb:Nat}{V:CV}{c:Ck}(h:zG E w cb V c)(n:Nd)(A:Option Addr)(C:Nat)(hr:j0 w0 n A C)(hcb:w0.heap.size≤cb-1)(hb0:Below w0.heap.size w0 w)(hx:JB n)(hnm:vI c.names c.parts)(hby:∀x ∈ c.names,x.2.bytes.length≤1000)(hdv:c.devs.length≤90000)(hnl:c.names.length≤90000)(ho:n.op≠zH)(hlk:lk c.names n.s=none)(hfu:full c.names n.op=false):Calls Tryz.prog 37 #[.pointer (some ⟨cb,0,none⟩),.agg (qa n (.slice A n.l.length C))] w (UM E w cb V (qX c n)):=by
 obtain⟨L,hL⟩:∃L,L=n.l.length:=⟨_,rfl⟩
 have HL:=zk hL
 obtain⟨W1,hW1⟩:∃W1,W1=w.alloc (.cells #[.string (bs n.op),.string (bs n.s),.int .i64 n.n,.int .i64 n.a,.slice A L C] 24):=⟨_,rfl⟩
 have hb1:Below w.heap.size w W1:=by rw[hW1];exact zh w _
 have N1:zi W1 w.heap.size 24 #[.string (bs n.op),.string (bs n.s),.int .i64 n.n,.int .i64 n.a,.slice A L C]:=by rw[hW1];exact zi.new w _ _
 have h1:zG E W1 cb V c:=h.keep hb1;have HW:=zk hW1;have lcb:=h.has.lt;have hot:=zp n.op;obtain⟨us,e1,hmb0,hin⟩:=h.nms;have hmb:=(hb1.block V.mb (Array.getElem?_eq_some_iff.1 hmb0).1).trans hmb0;have hun:=h1.uniq;have c5:=h1.has.cell 5;have nc1:=N1.cell 1;simp only[qt,qu,qr]at c5 nc1;have f0:(n.op== [101,120,112,111,114,116])=false:=by rw[beq_eq_false_iff_ne];exact ho
 have hR:qX c n=match jg c n with | .error e=> .error e| .ok (c1,m)=> .ok { c1 with names:=c1.names++ [(n.s,m)] }:=by
  unfold qX;rw[if_neg ho,if_neg (by rw[hlk];decide),if_neg (by rw[hfu];decide)];rfl
 have HU:Hid (gy c.names us n.s= .agg #[.string ⟨#[]⟩,.int .i64 0,.slice none 0 0]):=ZJ hlk;have HB:=zk (show(lk c.names n.s).isSome=false by rw[hlk];rfl);have HFC:=zk (λw2 (hb:Below W1.heap.size W1 w2)=>U9 (h1.keep hb) n.op (by rcases hx.word with e|e|e|e|e|e;exact .inl e;exact .inr (.inl e);exact .inr (.inr (.inl e));exact .inr (.inr (.inr (.inl e)));exact .inr (.inr (.inr (.inr e)));exact absurd e ho));rw[hfu]at HFC;have HSD:=zk (λw2 (hb:Below W1.heap.size W1 w2)=>fQ (h1.keep hb) n A C hr hcb (hb0.trans ((hb1.trans (hb.mono hb1.size)).mono hb0.size)) hx ho hnm hby hdv);have HLK:=zk hlk;rw[←hL]at HSD ⊢;clear hin hlk hW1 hL ho hfu;cases hC:jg c n with
 |error er =>
  obtain⟨ec,ek⟩:=er;rw[hC]at hR HSD;have HR:=zk hR;clear hR hC;unfold qa at HSD ⊢;go_enter Tryz.func37,Tryz.ntmps37
  go_wp2
  rw[←HW.out];refine wp_region_held_drew (S:=λwz=>wz.cell? ⟨cb,5,none⟩=some (.map (some V.mb))∧wz.cell? ⟨w.heap.size,1,none⟩=some (.string (bs n.s))∧wz.heap[V.mb]?=some (.map (ja c.names us).toArray c.names.length)∧Below W1.heap.size W1 wz) (by kernel_rfl) (⟨c5,nc1,hmb,(Below.refl _ W1).drew⟩) (λhHeld=>?_);refine zC 0 (some 14) (.pointer (some ⟨cb,0,none⟩)) hHeld ?_;simp only[Act.put,ze,zg,zf];refine zC 1 (some 15) (.pointer (some ⟨cb,0,none⟩)) hHeld ?_;simp only[Act.put,ze,zg,zf];refine zC 2 (some 16) (.pointer (some ⟨cb,5,none⟩)) hHeld ?_;simp only[Act.put,ze,zg,zf];refine zP 3 (some 17) (.map (some V.mb)) rfl rfl (λwz hz=>by obtain⟨z0,z1,z2,z3⟩:=hz;unfold execOp;go_simp) hHeld ?_;simp only[Act.put,ze,zg,zf];refine zC 4 (some 18) (.pointer (some ⟨w.heap.size,1,none⟩)) hHeld ?_;simp only[Act.put,ze,zg,zf];refine zP 5 (some 19) (.string (bs n.s)) rfl rfl (λwz hz=>by obtain⟨z0,z1,z2,z3⟩:=hz;unfold execOp;go_simp) hHeld ?_;simp only[Act.put,ze,zg,zf];refine zP 6 (some 20) (.tuple #[.agg #[.string ⟨#[]⟩,.int .i64 0,.slice none 0 0],.bool false]) rfl rfl (λwz hz=>(y4 _ _ rfl hz.2.2.1 e1 hun n.s rfl rfl).trans (by rw[HU.out,HB.out])) hHeld ?_;simp only[Act.put,ze,zg,zf];refine zC 7 (some 13) (.tuple #[.agg #[.string ⟨#[]⟩,.int .i64 0,.slice none 0 0],.bool false]) hHeld ?_;simp only[Act.put,ze,zg,zf];refine zC 8 (some 21) (.agg #[.string ⟨#[]⟩,.int .i64 0,.slice none 0 0]) hHeld ?_;simp only[Act.put,ze,zg,zf];refine zC 9 (some 22) (.bool false) hHeld ?_;simp only[Act.put,ze,zg,zf]
  have hH2:(W1.drew.alloc (.cells #[.string ⟨#[]⟩,.int .i64 0,.slice none 0 0] 111)).cell? ⟨cb,5,none⟩=some (.map (some V.mb))∧(W1.drew.alloc (.cells #[.string ⟨#[]⟩,.int .i64 0,.slice none 0 0] 111)).cell? ⟨w.heap.size,1,none⟩=some (.string (bs n.s))∧(W1.drew.alloc (.cells #[.string ⟨#[]⟩,.int .i64 0,.slice none 0 0] 111)).heap[V.mb]?=some (.map (ja c.names us).toArray c.names.length)∧Below W1.heap.size W1 (W1.drew.alloc (.cells #[.string ⟨#[]⟩,.int .i64 0,.slice none 0 0] 111)):=⟨za (zh W1.drew _) hHeld.1,za (zh W1.drew _) hHeld.2.1,(Below.heap_alloc W1.drew _ V.mb (Array.getElem?_eq_some_iff.1 hmb).1).trans hHeld.2.2.1,hHeld.2.2.2.trans ((zh W1.drew _))⟩
  refine yh 10 (by kernel_rfl) (xT (some 4) (.pointer (some ⟨W1.heap.size,0,none⟩)) (W1.drew.alloc (.cells #[.string ⟨#[]⟩,.int .i64 0,.slice none 0 0] 111)) rfl rfl (by rfl) (by kernel_rfl) ⟨hH2,?_⟩);simp only[Act.put,ze,zg,zf];have hM2:zi (W1.drew.alloc (.cells #[.string ⟨#[]⟩,.int .i64 0,.slice none 0 0] 111)) W1.heap.size 111 #[.string ⟨#[]⟩,.int .i64 0,.slice none 0 0]:=zi.new_at rfl;have hBel:Below W1.heap.size W1 ((W1.drew.alloc (.cells #[.string ⟨#[]⟩,.int .i64 0,.slice none 0 0] 111)).setRow W1.heap.size #[.string ⟨#[]⟩,.int .i64 0,.slice none 0 0]):=jW hH2.2.2.2 (Nat.le_refl _) _
  have hH3:((W1.drew.alloc (.cells #[.string ⟨#[]⟩,.int .i64 0,.slice none 0 0] 111)).setRow W1.heap.size #[.string ⟨#[]⟩,.int .i64 0,.slice none 0 0]).cell? ⟨cb,5,none⟩=some (.map (some V.mb))∧((W1.drew.alloc (.cells #[.string ⟨#[]⟩,.int .i64 0,.slice none 0 0] 111)).setRow W1.heap.size #[.string ⟨#[]⟩,.int .i64 0,.slice none 0 0]).cell? ⟨w.heap.size,1,none⟩=some (.string (bs n.s))∧((W1.drew.alloc (.cells #[.string ⟨#[]⟩,.int .i64 0,.slice none 0 0] 111)).setRow W1.heap.size #[.string ⟨#[]⟩,.int .i64 0,.slice none 0 0]).heap[V.mb]?=some (.map (ja c.names us).toArray c.names.length)∧Below W1.heap.size W1 ((W1.drew.alloc (.cells #[.string ⟨#[]⟩,.int .i64 0,.slice none 0 0] 111)).setRow W1.heap.size #[.string ⟨#[]⟩,.int .i64 0,.slice none 0 0]):=⟨za hBel c5,za hBel nc1,(hBel.block V.mb (Array.getElem?_eq_some_iff.1 hmb).1).trans hmb,hBel⟩
  refine yh 11 (by kernel_rfl) (yZ none ((W1.drew.alloc (.cells #[.string ⟨#[]⟩,.int .i64 0,.slice none 0 0] 111)).setRow W1.heap.size #[.string ⟨#[]⟩,.int .i64 0,.slice none 0 0]) rfl rfl (by rfl) (jp 111 _ _ rfl W1.heap.size rfl #[.string ⟨#[]⟩,.int .i64 0,.slice none 0 0] rfl 111 (by kernel_rfl) _ hM2 rfl (by kernel_rfl)) ⟨hH3,?_⟩);simp only[Act.put];refine zP 12 (some 5) (.bool false) rfl rfl (λ_ _=>rfl) hH3 ?_;simp only[Act.put,ze,zg,zf];refine wpAnyH_done (by kernel_rfl) ?_ _;clear hM2 hH3 hH2 hHeld;generalize ((W1.drew.alloc (.cells #[.string ⟨#[]⟩,.int .i64 0,.slice none 0 0] 111)).setRow W1.heap.size #[.string ⟨#[]⟩,.int .i64 0,.slice none 0 0])=W2 at *;have N2:=N1.below hBel N1.lt;have b0:=N2.cell 0;have b1:=N2.cell 1;have b2:=N2.cell 2;have b3:=N2.cell 3;have b4:=N2.cell 4;have bl:=N2.lt;simp only[qt,qu,qr]at b0 b1 b2 b3 b4
  go_wp2_with (first
   |((go_at_call 63)
     refine(zX 132 n.a W2).mono ?_;rintro e w3 ⟨rfl,hw3⟩;(obtain rfl:W2=w3:=hw3.symm)))
  have hfc:=λw2 (hb:Below W2.heap.size W2 w2)=>HFC.out w2 (hBel.trans (hb.mono hBel.size))
  refine wp_region_held_drew (S:=λwz=>Below W2.heap.size W2 wz) (by kernel_rfl) ((Below.refl _ W2).drew) (λhHeld=>?_);refine zC 0 (some 28) (.pointer (some ⟨cb,0,none⟩)) hHeld ?_;simp only[Act.put,ze,zg,zf];refine zC 1 (some 29) (.pointer (some ⟨w.heap.size,0,none⟩)) hHeld ?_;simp only[Act.put,ze,zg,zf];refine zP 2 (some 30) (.string (bs n.op)) rfl rfl (λwz hz=>by have z0:=za hz b0;unfold execOp;go_simp) hHeld ?_;simp only[Act.put,ze,zg,zf];refine zC 5 (some 33) (.pointer (some ⟨w.heap.size,3,none⟩)) hHeld ?_;simp only[Act.put,ze,zg,zf];refine zP 6 (some 34) (.int .i64 n.a) rfl rfl (λwz hz=>by have z0:=za hz b3;unfold execOp;go_simp) hHeld ?_;simp only[Act.put,ze,zg,zf];refine qn 3 (some 31) 64 #[.pointer (some ⟨cb,0,none⟩),.string (bs n.op)] (by kernel_rfl) rfl rfl (by rfl) (by kernel_rfl) (hfc _ (zm (Below.refl _ W2))) ?_;rintro e w4 ⟨rfl,hb4'⟩;have hb4:Below W2.heap.size W2 w4:=(zm (Below.refl _ W2)).trans hb4';refine .inl ⟨_,rfl,hb4,?_⟩;simp only[Act.put,ze,zg,zf];refine zP 4 (some 32) (.bool true) rfl rfl (λ_ _=>rfl) hb4 ?_;simp only[Act.put,ze,zg,zf];refine qn 7 (some 35) 63 #[.bool true,.int .i64 137,.int .i64 n.a] (by kernel_rfl) rfl rfl (by rfl) (by kernel_rfl) (zX 137 n.a w4) ?_;rintro e w5 ⟨rfl,hw5⟩;obtain rfl:w4=w5:=hw5.symm;refine .inl ⟨_,rfl,hb4,?_⟩;simp only[Act.put,ze,zg,zf];refine wpAnyH_done (by kernel_rfl) ?_ _;have hb14:Below W1.heap.size W1 w4:=hBel.trans (hb4.mono hBel.size);have hsd:=HSD.out w4 hb14;clear b0 b1 b2 b3 b4 bl hfc;have N2:=N1.below hb14 N1.lt;have b0:=N2.cell 0;have b1:=N2.cell 1;have b2:=N2.cell 2;have b3:=N2.cell 3;have b4:=N2.cell 4;have bl:=N2.lt;simp only[qt,qu,qr]at b0 b1 b2 b3 b4
  go_wp2_with (first
   |((go_at_call 65)
     refine hsd.mono ?_;(rintro e w5 ⟨ho5,rfl⟩)))
  exact⟨rfl,(j9.of (hb1.trans (hb14.mono hb1.size))).trans ho5,by rw[HR.out]⟩
 |ok r =>
  obtain⟨c1,m⟩:=r;rw[hC]at hR HSD;have HR:=zk hR;have HNM:=zk (YI hC);clear hR hC;unfold qa at HSD ⊢;go_enter Tryz.func37,Tryz.ntmps37
  go_wp2
  rw[←HW.out];refine wp_region_held_drew (S:=λwz=>wz.cell? ⟨cb,5,none⟩=some (.map (some V.mb))∧wz.cell? ⟨w.heap.size,1,none⟩=some (.string (bs n.s))∧wz.heap[V.mb]?=some (.map (ja c.names us).toArray c.names.length)∧Below W1.heap.size W1 wz) (by kernel_rfl) (⟨c5,nc1,hmb,(Below.refl _ W1).drew⟩) (λhHeld=>?_);refine zC 0 (some 14) (.pointer (some ⟨cb,0,none⟩)) hHeld ?_;simp only[Act.put,ze,zg,zf];refine zC 1 (some 15) (.pointer (some ⟨cb,0,none⟩)) hHeld ?_;simp only[Act.put,ze,zg,zf];refine zC 2 (some 16) (.pointer (some ⟨cb,5,none⟩)) hHeld ?_;simp only[Act.put,ze,zg,zf];refine zP 3 (some 17) (.map (some V.mb)) rfl rfl (λwz hz=>by obtain⟨z0,z1,z2,z3⟩:=hz;unfold execOp;go_simp) hHeld ?_;simp only[Act.put,ze,zg,zf];refine zC 4 (some 18) (.pointer (some ⟨w.heap.size,1,none⟩)) hHeld ?_;simp only[Act.put,ze,zg,zf];refine zP 5 (some 19) (.string (bs n.s)) rfl rfl (λwz hz=>by obtain⟨z0,z1,z2,z3⟩:=hz;unfold execOp;go_simp) hHeld ?_;simp only[Act.put,ze,zg,zf];refine zP 6 (some 20) (.tuple #[.agg #[.string ⟨#[]⟩,.int .i64 0,.slice none 0 0],.bool false]) rfl rfl (λwz hz=>(y4 _ _ rfl hz.2.2.1 e1 hun n.s rfl rfl).trans (by rw[HU.out,HB.out])) hHeld ?_;simp only[Act.put,ze,zg,zf];refine zC 7 (some 13) (.tuple #[.agg #[.string ⟨#[]⟩,.int .i64 0,.slice none 0 0],.bool false]) hHeld ?_;simp only[Act.put,ze,zg,zf];refine zC 8 (some 21) (.agg #[.string ⟨#[]⟩,.int .i64 0,.slice none 0 0]) hHeld ?_;simp only[Act.put,ze,zg,zf];refine zC 9 (some 22) (.bool false) hHeld ?_;simp only[Act.put,ze,zg,zf]
  have hH2:(W1.drew.alloc (.cells #[.string ⟨#[]⟩,.int .i64 0,.slice none 0 0] 111)).cell? ⟨cb,5,none⟩=some (.map (some V.mb))∧(W1.drew.alloc (.cells #[.string ⟨#[]⟩,.int .i64 0,.slice none 0 0] 111)).cell? ⟨w.heap.size,1,none⟩=some (.string (bs n.s))∧(W1.drew.alloc (.cells #[.string ⟨#[]⟩,.int .i64 0,.slice none 0 0] 111)).heap[V.mb]?=some (.map (ja c.names us).toArray c.names.length)∧Below W1.heap.size W1 (W1.drew.alloc (.cells #[.string ⟨#[]⟩,.int .i64 0,.slice none 0 0] 111)):=⟨za (zh W1.drew _) hHeld.1,za (zh W1.drew _) hHeld.2.1,(Below.heap_alloc W1.drew _ V.mb (Array.getElem?_eq_some_iff.1 hmb).1).trans hHeld.2.2.1,hHeld.2.2.2.trans ((zh W1.drew _))⟩
  refine yh 10 (by kernel_rfl) (xT (some 4) (.pointer (some ⟨W1.heap.size,0,none⟩)) (W1.drew.alloc (.cells #[.string ⟨#[]⟩,.int .i64 0,.slice none 0 0] 111)) rfl rfl (by rfl) (by kernel_rfl) ⟨hH2,?_⟩);simp only[Act.put,ze,zg,zf];have hM2:zi (W1.drew.alloc (.cells #[.string ⟨#[]⟩,.int .i64 0,.slice none 0 0] 111)) W1.heap.size 111 #[.string ⟨#[]⟩,.int .i64 0,.slice none 0 0]:=zi.new_at rfl;have hBel:Below W1.heap.size W1 ((W1.drew.alloc (.cells #[.string ⟨#[]⟩,.int .i64 0,.slice none 0 0] 111)).setRow W1.heap.size #[.string ⟨#[]⟩,.int .i64 0,.slice none 0 0]):=jW hH2.2.2.2 (Nat.le_refl _) _
  have hH3:((W1.drew.alloc (.cells #[.string ⟨#[]⟩,.int .i64 0,.slice none 0 0] 111)).setRow W1.heap.size #[.string ⟨#[]⟩,.int .i64 0,.slice none 0 0]).cell? ⟨cb,5,none⟩=some (.map (some V.mb))∧((W1.drew.alloc (.cells #[.string ⟨#[]⟩,.int .i64 0,.slice none 0 0] 111)).setRow W1.heap.size #[.string ⟨#[]⟩,.int .i64 0,.slice none 0 0]).cell? ⟨w.heap.size,1,none⟩=some (.string (bs n.s))∧((W1.drew.alloc (.cells #[.string ⟨#[]⟩,.int .i64 0,.slice none 0 0] 111)).setRow W1.heap.size #[.string ⟨#[]⟩,.int .i64 0,.slice none 0 0]).heap[V.mb]?=some (.map (ja c.names us).toArray c.names.length)∧Below W1.heap.size W1 ((W1.drew.alloc (.cells #[.string ⟨#[]⟩,.int .i64 0,.slice none 0 0] 111)).setRow W1.heap.size #[.string ⟨#[]⟩,.int .i64 0,.slice none 0 0]):=⟨za hBel c5,za hBel nc1,(hBel.block V.mb (Array.getElem?_eq_some_iff.1 hmb).1).trans hmb,hBel⟩
  refine yh 11 (by kernel_rfl) (yZ none ((W1.drew.alloc (.cells #[.string ⟨#[]⟩,.int .i64 0,.slice none 0 0] 111)).setRow W1.heap.size #[.string ⟨#[]⟩,.int .i64 0,.slice none 0 0]) rfl rfl (by rfl) (jp 111 _ _ rfl W1.heap.size rfl #[.string ⟨#[]⟩,.int .i64 0,.slice none 0 0] rfl 111 (by kernel_rfl) _ hM2 rfl (by kernel_rfl)) ⟨hH3,?_⟩);simp only[Act.put];refine zP 12 (some 5) (.bool false) rfl rfl (λ_ _=>rfl) hH3 ?_;simp only[Act.put,ze,zg,zf];refine wpAnyH_done (by kernel_rfl) ?_ _;clear hM2 hH3 hH2 hHeld;generalize ((W1.drew.alloc (.cells #[.string ⟨#[]⟩,.int .i64 0,.slice none 0 0] 111)).setRow W1.heap.size #[.string ⟨#[]⟩,.int .i64 0,.slice none 0 0])=W2 at *;have N2:=N1.below hBel N1.lt;have b0:=N2.cell 0;have b1:=N2.cell 1;have b2:=N2.cell 2;have b3:=N2.cell 3;have b4:=N2.cell 4;have bl:=N2.lt;simp only[qt,qu,qr]at b0 b1 b2 b3 b4
  go_wp2_with (first
   |((go_at_call 63)
     refine(zX 132 n.a W2).mono ?_;rintro e w3 ⟨rfl,hw3⟩;(obtain rfl:W2=w3:=hw3.symm)))
  have hfc:=λw2 (hb:Below W2.heap.size W2 w2)=>HFC.out w2 (hBel.trans (hb.mono hBel.size))
  refine wp_region_held_drew (S:=λwz=>Below W2.heap.size W2 wz) (by kernel_rfl) ((Below.refl _ W2).drew) (λhHeld=>?_);refine zC 0 (some 28) (.pointer (some ⟨cb,0,none⟩)) hHeld ?_;simp only[Act.put,ze,zg,zf];refine zC 1 (some 29) (.pointer (some ⟨w.heap.size,0,none⟩)) hHeld ?_;simp only[Act.put,ze,zg,zf];refine zP 2 (some 30) (.string (bs n.op)) rfl rfl (λwz hz=>by have z0:=za hz b0;unfold execOp;go_simp) hHeld ?_;simp only[Act.put,ze,zg,zf];refine zC 5 (some 33) (.pointer (some ⟨w.heap.size,3,none⟩)) hHeld ?_;simp only[Act.put,ze,zg,zf];refine zP 6 (some 34) (.int .i64 n.a) rfl rfl (λwz hz=>by have z0:=za hz b3;unfold execOp;go_simp) hHeld ?_;simp only[Act.put,ze,zg,zf];refine qn 3 (some 31) 64 #[.pointer (some ⟨cb,0,none⟩),.string (bs n.op)] (by kernel_rfl) rfl rfl (by rfl) (by kernel_rfl) (hfc _ (zm (Below.refl _ W2))) ?_;rintro e w4 ⟨rfl,hb4'⟩;have hb4:Below W2.heap.size W2 w4:=(zm (Below.refl _ W2)).trans hb4';refine .inl ⟨_,rfl,hb4,?_⟩;simp only[Act.put,ze,zg,zf];refine zP 4 (some 32) (.bool true) rfl rfl (λ_ _=>rfl) hb4 ?_;simp only[Act.put,ze,zg,zf];refine qn 7 (some 35) 63 #[.bool true,.int .i64 137,.int .i64 n.a] (by kernel_rfl) rfl rfl (by rfl) (by kernel_rfl) (zX 137 n.a w4) ?_;rintro e w5 ⟨rfl,hw5⟩;obtain rfl:w4=w5:=hw5.symm;refine .inl ⟨_,rfl,hb4,?_⟩;simp only[Act.put,ze,zg,zf];refine wpAnyH_done (by kernel_rfl) ?_ _;have hb14:Below W1.heap.size W1 w4:=hBel.trans (hb4.mono hBel.size);have hsd:=HSD.out w4 hb14;clear b0 b1 b2 b3 b4 bl hfc;have N2:=N1.below hb14 N1.lt;have b0:=N2.cell 0;have b1:=N2.cell 1;have b2:=N2.cell 2;have b3:=N2.cell 3;have b4:=N2.cell 4;have bl:=N2.lt;simp only[qt,qu,qr]at b0 b1 b2 b3 b4;have hnn:¬V.own cb w.heap.size:=λe=>by have:=(h.low e).2;omega
  go_wp2_with (first
   |((go_at_call 65)
     refine hsd.mono ?_;rintro e w5 ⟨ho5,u,V5,rfl,hu5,H5,S5⟩;obtain⟨Au,Cu,eu,u1,u2,ub⟩:=hu5.bytes;subst eu;(unfold Yb)))
  have N5:zi w5 w.heap.size 24 #[.string (bs n.op),.string (bs n.s),.int .i64 n.n,.int .i64 n.a,.slice A L C]:=(S5.inner _ N2.lt hnn).1.trans N2;generalize hu:(Value.slice Au m.bytes.length Cu)=u at *;have hb6:=zh w5 (.cells #[.string (bs m.word),.int .i64 (m.node:Nat),u] 111);have H6:=H5.keep hb6;have M6:zi (w5.alloc (.cells #[.string (bs m.word),.int .i64 (m.node:Nat),u] 111)) w5.heap.size 111 #[.string (bs m.word),.int .i64 (m.node:Nat),u]:=zi.new _ _ _;have N6:=N5.alloc (.cells #[.string (bs m.word),.int .i64 (m.node:Nat),u] 111);have hu6:=hu5.keep hb6.size (λk hk hP=>⟨hb6.block k hk,hP⟩);have S06:=((qT.of (cb:=cb) (V:=V) (hb1.trans (hb14.mono hb1.size))).trans S5).trans (qT.of (cb:=cb) (V:=V5) hb6);generalize w5.alloc (.cells #[.string (bs m.word),.int .i64 (m.node:Nat),u] 111)=W6 at *;have d5:=H6.has.cell 5;have d1:=N6.cell 1;simp only[qt,qu,qr]at d5 d1;obtain⟨us6,e6,hmb6,hin6⟩:=H6.nms;have hlk6:lk c1.names n.s=none:=by rw[HNM.out];exact HLK.out
  refine vD (S:=λwz=>Below W6.heap.size W6 wz) 7 (by kernel_rfl) ((Below.refl _ W6).drew) (λhHeld=>?_);refine vf 0 (some 39) (.pointer (some ⟨cb,0,none⟩)) hHeld ?_;simp only[Act.put,ze,zg,zf];refine vf 1 (some 40) (.pointer (some ⟨cb,0,none⟩)) hHeld ?_;simp only[Act.put,ze,zg,zf];refine vf 2 (some 41) (.pointer (some ⟨cb,5,none⟩)) hHeld ?_;simp only[Act.put,ze,zg,zf];refine vM 3 (some 42) (.map (some V5.mb)) rfl rfl (λwz hz=>by have z0:=za hz d5;unfold execOp;go_simp) hHeld ?_;simp only[Act.put,ze,zg,zf];refine vf 4 (some 43) (.pointer (some ⟨w.heap.size,1,none⟩)) hHeld ?_;simp only[Act.put,ze,zg,zf];refine vM 5 (some 44) (.string (bs n.s)) rfl rfl (λwz hz=>by have z0:=za hz d1;unfold execOp;go_simp) hHeld ?_;simp only[Act.put,ze,zg,zf];refine vM 6 (some 45) (.agg #[.string (bs m.word),.int .i64 (m.node:Nat),u]) rfl rfl (λwz hz=>Yf _ rfl w5.heap.size rfl wz (M6.below hz M6.lt)) hHeld ?_;simp only[Act.put,ze,zg,zf];have hbd:Below W6.heap.size W6 W6.drew:=zm (Below.refl _ W6);refine jv 7 none (setObj W6.drew V5.mb (.map (ja (c1.names++ [(n.s,m)]) (us6++ [u])).toArray (c1.names.length+1))) (by kernel_rfl) rfl rfl (by rfl) (Kb _ _ _ rfl (show W6.drew.heap[V5.mb]?=_ from hmb6) e6 H6.uniq n.s m u hlk6 rfl rfl rfl) (by kernel_rfl) ?_;simp only[Act.put];obtain⟨H7,S7⟩:=(H6.keep hbd).putName e6 hmb6 (λi a b=>(hin6 i a b).keep hbd.size (λk hk hP=>⟨hbd.block k hk,hP⟩)) n.s m u (ko hlk6) (hu6.keep hbd.size (λk hk hP=>⟨hbd.block k hk,hP⟩)) (by rw[HNM.out];exact hnl);have S07:=S06.trans ((qT.of (cb:=cb) (V:=V5) hbd).trans S7)
  go_wp2
  go_end0
  refine⟨S07.only,?_⟩;rw[HR.out]
  exact⟨rfl,V5,H7.mono (λg _ _ he=>by
   rcases he with he|he
   ·exact .inl he
   ·exact .inr (by have:=hb1.size;have:=hb14.size;omega)),S07⟩
theorem YK{w0 w:World}{cb:Nat}{V:CV}{c:Ck}(h:zG E w cb V c)(n:Nd)(A:Option Addr)(C:Nat)(hr:j0 w0 n A C)(hcb:w0.heap.size≤cb-1)(hb0:Below w0.heap.size w0 w)(hx:JB n)(hnm:vI c.names c.parts)(hby:∀x ∈ c.names,x.2.bytes.length≤1000)(hdv:c.devs.length≤90000)(hnl:c.names.length≤90000):Calls Tryz.prog 37 #[.pointer (some ⟨cb,0,none⟩),.agg (qa n (.slice A n.l.length C))] w (UM E w cb V (qX c n)):=by
 by_cases ho:n.op=zH
 ·exact kZ h n A C hr hcb hb0 hx hnm hby hdv hnl ho
 ·cases hk:lk c.names n.s with
  |some m=>exact G5 h n A C hr hcb hb0 hx hnm hby hdv hnl ho (by rw[hk];rfl)
  |none =>
   cases hf:full c.names n.op with
   |true=>exact FN h n A C hr hcb hb0 hx hnm hby hdv hnl ho hk hf
   |false=>exact gW h n A C hr hcb hb0 hx hnm hby hdv hnl ho hk hf
end
section
open Go.ChangeShapes Go.WideShapes Go.ChangeAt Go.RowKit Go.Shelf
def R3.cells(r:R3):Array Value:=#[.int .i64 r.d,.int .i64 r.f,.int .i64 r.c]
def ux(w:World)(a:Option Addr)(n:Nat)(F:Nat→R3):Prop:=n=0∨∃b off,a=some ⟨b,off,none⟩∧b<w.heap.size ∧
 ∀i,i<n→w.cell? ⟨b,off+i*3,none⟩=some (.int .i64 (F i).d)∧w.cell? ⟨b,off+i*3+1,none⟩=some (.int .i64 (F i).f)∧w.cell? ⟨b,off+i*3+2,none⟩=some (.int .i64 (F i).c)
theorem ux.below{w w':World}{a:Option Addr}{n B:Nat}{F:Nat→R3}(h:ux w a n F)(hb:Below B w w')(hB:w.heap.size≤B):ux w' a n F:=by
 rcases h with h|⟨b,off,rfl,hlt,hc⟩
 ·exact .inl h
 ·refine .inr ⟨b,off,rfl,by have:=hb.size;omega,λi hi=>?_⟩
  obtain⟨c0,c1,c2⟩:=hc i hi;have e:∀o,w'.cell? ⟨b,o,none⟩=w.cell? ⟨b,o,none⟩:=λo=>hb.cell (p:=⟨b,o,none⟩) (by show b<B;omega)
  exact⟨by rw[e];exact c0,by rw[e];exact c1,by rw[e];exact c2⟩
theorem ux.to{w:World}{a:Option Addr}{n m:Nat}{F:Nat→R3}(h:ux w a n F)(hm:m≤n):ux w a m F:=by
 rcases h with h|⟨b,off,rfl,hlt,hc⟩
 ·exact .inl (by omega)
 ·exact .inr ⟨b,off,rfl,hlt,λi hi=>hc i (by omega)⟩
theorem ux.at{w:World}{a:Option Addr}{n:Nat}{F:Nat→R3}(h:ux w a n F)(i:Nat)(hi:i<n):∃b off,a=some ⟨b,off,none⟩∧b<w.heap.size ∧
 w.cell? ⟨b,off+i*3,none⟩=some (.int .i64 (F i).d)∧w.cell? ⟨b,off+i*3+1,none⟩=some (.int .i64 (F i).f)∧w.cell? ⟨b,off+i*3+2,none⟩=some (.int .i64 (F i).c):=by
 rcases h with h|⟨b,off,rfl,hlt,hc⟩
 ·omega
 ·exact⟨b,off,rfl,hlt,hc i hi⟩
theorem fC(r q:R3)(bx:Nat)(W:World)(hx:zi W bx 42 q.cells):Calls Tryz.prog 85 #[r.v,.pointer (some ⟨bx,0,none⟩)] W λe W'=>e= .returned (.bool (xg r q))∧Below W.heap.size W W':=by
 obtain⟨W0,hW0⟩:∃W0,W0=W.alloc (.cells #[.int .i64 r.d,.int .i64 r.f,.int .i64 r.c] 42):=⟨_,rfl⟩
 have hB0:Below W.heap.size W W0:=by rw[hW0];exact(Below.refl _ W).alloc (Nat.le_refl _) _
 obtain⟨c0,c1,c2⟩:=jr hx;have hlt:=hx.lt;have hs:=GS r q W0;obtain⟨rd,rf,rc⟩:=r;obtain⟨qd,qf,qc⟩:=q;simp only at c0 c1 c2 hW0;simp only[R3.v]at hs ⊢;generalize xg _ _=bo at hs ⊢;clear hx;go_enter Tryz.func85,Tryz.ntmps85
 go_wp2_with (first
  |((go_at_call 86)
    rw[←hW0];refine hs.mono ?_;(rintro e w1 ⟨rfl,hb1⟩)))
 go_ret
 exact⟨rfl,hB0.trans (hb1.mono hB0.size)⟩
def F4(n:Nat)(p:Nat→Bool)(r:Int):Prop:=(r= -1∧∀i,i<n→p i=false)∨∃k:Nat,k<n∧r=k∧p k=true∧∀i,i<k→p i=false
theorem Gc(g:Nat)(cb:Array Value)(a:Option Addr)(n cap:Nat)(F:Nat→R3)(p:Nat→Bool)(w:World)(eg:∀args w,(callFunc g args).run Tryz.prog w= .ok (.enter g args) w)(hn:n≤100000)(hl:ux w a n F)
 (hf:∀(i:Nat) (W:World),i<n→Below w.heap.size w W→Calls Tryz.prog g (#[(F i).v]++cb) W λe W'=>e= .returned (.bool (p i))∧Below W.heap.size W W'):
 Calls Tryz.prog 84 #[.slice a n cap,.func (.func g) #[] cb] w λe w'=>∃r:Int,e= .returned (.int .i64 r)∧F4 n p r∧Below w.heap.size w w':=by
 have HF:Hid (∀(i:Nat) (W:World),i<n→Below w.heap.size w W→Calls Tryz.prog g (#[(F i).v]++cb) W λe W'=>e= .returned (.bool (p i))∧Below W.heap.size W W'):=hf;clear hf;go_enter Tryz.func84,Tryz.ntmps84
 go_wp2
 go_loopw [8] (λi wr=>∃k:Nat,k≤n∧i= .int .i64 k∧Hid (∀i,i<k→p i=false)∧Below w.heap.size w wr) (λi _=>n-(intOf i).toNat)
 case atStart=>exact⟨0,Nat.zero_le _,rfl,(λt ht=>absurd ht (Nat.not_lt_zero _):∀t,t<0→p t=false),Below.refl _ _⟩
 case round =>
  obtain⟨k,hk,rfl,HA,hb⟩:=hrel;by_cases hlt:k<n
  ·obtain⟨b,off,rfl,hbl,c0,c1,c2⟩:=(hl.below hb (Nat.le_refl _)).at k hlt
   have hc:=HF.out k _ hlt hb;simp only[R3.v]at hc;cases hp:p k<;>rw[hp]at hc
   ·have HP:Hid (p k=false):=hp
    clear hp hl;generalize F k=r at *;obtain⟨rd,rf,rc⟩:=r;simp only at c0 c1 c2 hc
    go_wp2_with (go_at_fn g;refine hc.mono ?_;rintro e w' ⟨rfl,hb2⟩)
    go_roundw
    case rel=>exact⟨k+1,hlt,by go_num,(λt ht=>by
     by_cases e:t<k
     ·exact HA.out t e
     ·obtain rfl:t=k:=by omega
      exact HP.out:∀t,t<k+1→p t=false),hb.trans (hb2.mono hb.size)⟩
    case measure=>simp[intOf];omega
   ·have HP:Hid (p k=true):=hp
    clear hp hl;generalize F k=r at *;obtain⟨rd,rf,rc⟩:=r;simp only at c0 c1 c2 hc
    go_wp2_with (go_at_fn g;refine hc.mono ?_;rintro e w' ⟨rfl,hb2⟩)
    go_ret
    exact⟨k,rfl,.inr ⟨k,hlt,rfl,HP.out,HA.out⟩,hb.trans (hb2.mono hb.size)⟩
  ·obtain rfl:k=n:=by omega
   clear hl
   go_wp2
   go_ret
   exact⟨-1,rfl,.inl ⟨rfl,HA.out⟩,hb⟩
def Ov(n:Nat)(S:Nat→Nat→Bool)(i j:Int):Prop:=(i= -1∧j= -1∧∀b,b<n→∀a,a<b→S a b=false) ∨
 ∃a b:Nat,i=a∧j=b∧a<b∧b<n∧S a b=true∧(∀b',b'<b→∀a',a'<b'→S a' b'=false)∧(∀a',a'<a→S a' b=false)
theorem Ov.eq{n:Nat}{S T:Nat→Nat→Bool}{i j p q:Int}(h:Ov n S i j)(k:Ov n T p q)(hST:∀b,b<n→∀a,a<b→S a b=T a b):i=p∧j=q:=by
 rcases h with⟨rfl,rfl,h⟩|⟨a,b,rfl,rfl,hab,hbn,hs,hl,hm⟩
 ·rcases k with⟨rfl,rfl,k⟩|⟨c,d,rfl,rfl,hcd,hdn,ht,kl,km⟩
  ·exact⟨rfl,rfl⟩
  ·have:=h d hdn c hcd
   rw[hST d hdn c hcd,ht]at this;cases this
 ·rcases k with⟨rfl,rfl,k⟩|⟨c,d,rfl,rfl,hcd,hdn,ht,kl,km⟩
  ·have:=k b hbn a hab
   rw[←hST b hbn a hab,hs]at this;cases this
  ·have hbd:b=d:=by
    rcases Nat.lt_trichotomy b d with e|e|e
    ·have:=kl b e a hab;rw[←hST b hbn a hab,hs]at this;cases this
    ·exact e
    ·have:=hl d e c hcd;rw[hST d hdn c hcd,ht]at this;cases this
   subst hbd
   have hac:a=c:=by
    rcases Nat.lt_trichotomy a c with e|e|e
    ·have:=km a e;rw[←hST b hbn a hab,hs]at this;cases this
    ·exact e
    ·have:=hm c e;rw[hST b hbn c hcd,ht]at this;cases this
   subst hac;exact⟨rfl,rfl⟩
def SS(F:Nat→R3)(a b:Nat):Bool:=xg (F a) (F b)
theorem UQ(a:Option Addr)(n cap:Nat)(F:Nat→R3)(w:World)(hn:n≤100000)(hcap:n≤cap)(hcm:cap≤9223372036854775807)(hl:ux w a n F):
 Calls Tryz.prog 66 #[.slice a n cap] w λe w'=>∃i j:Int,e= .returned (.tuple #[.int .i64 i,.int .i64 j])∧Ov n (SS F) i j∧Below w.heap.size w w':=by
 go_enter Tryz.func66,Tryz.ntmps66
 go_wp2
 go_loopw [9] (λi wr=>∃k:Nat,k≤n∧i= .int .i64 k∧Hid (∀b,b<k→∀a,a<b→SS F a b=false)∧Below w.heap.size w wr) (λi _=>n-(intOf i).toNat)
 case atStart=>exact⟨0,Nat.zero_le _,rfl,(λt ht=>absurd ht (Nat.not_lt_zero _):∀t,t<0→∀a,a<t→SS F a t=false),Below.refl _ _⟩
 case round =>
  rename_i wr
  obtain⟨k,hk,rfl,HA,hb⟩:=hrel;by_cases hlt:k<n
  ·have hlr:=hl.below hb (Nat.le_refl _)
   obtain⟨b,off,rfl,hbl,c0,c1,c2⟩:=hlr.at k hlt
   obtain⟨W0,hW0⟩:∃W0,W0=wr.alloc (.cells #[.int .i64 (F k).d,.int .i64 (F k).f,.int .i64 (F k).c] 42):=⟨_,rfl⟩
   have hB0:Below wr.heap.size wr W0:=by rw[hW0];exact(Below.refl _ wr).alloc (Nat.le_refl _) _
   have hx0:zi W0 wr.heap.size 42 (F k).cells:=by rw[hW0];exact zi.new _ _ _
   have hI:=Gc 85 #[.pointer (some ⟨wr.heap.size,0,none⟩)] (some ⟨b,off,none⟩) k cap F (λi=>SS F i k) W0 (enters_of Tryz.func85 (by kernel_rfl) rfl) (by omega) ((hlr.below hB0 (Nat.le_refl _)).to (by omega))
    (λi W hi hbW=>fC (F i) (F k) wr.heap.size W (hx0.below hbW hx0.lt))
   have HI:Hid (Calls Tryz.prog 84 #[.slice (some ⟨b,off,none⟩) k cap,.func (.func 85) #[] #[.pointer (some ⟨wr.heap.size,0,none⟩)]] W0 λe w'=>∃r:Int,e= .returned (.int .i64 r)∧F4 k (λi=>SS F i k) r∧Below W0.heap.size W0 w'):=hI;clear hI;generalize hFk:F k=q at c0 c1 c2 hW0;obtain⟨qd,qf,qc⟩:=q;simp only at c0 c1 c2 hW0;clear hFk hlr hl
   go_wp2_with (first
    |((go_at_call 84)
      rw[←hW0];refine HI.out.mono ?_;(rintro e w1 ⟨r,rfl,hF,hb1⟩)))
   ·rename_i hr
    go_ret2
    have hB1:Below w.heap.size w w1:=hb.trans ((hB0.trans (hb1.mono hB0.size)).mono hb.size);rcases hF with⟨rfl,hall⟩|⟨m,hm,rfl,hpm,hall⟩
    ·omega
    ·exact⟨m,k,rfl,.inr ⟨m,k,rfl,rfl,hm,hlt,hpm,HA.out,hall⟩,hB1⟩
   ·rename_i hr
    go_roundw
    case rel =>
     have hB1:Below w.heap.size w w1:=hb.trans ((hB0.trans (hb1.mono hB0.size)).mono hb.size);refine⟨k+1,hlt,by go_num,?_,hB1⟩;rcases hF with⟨rfl,hall⟩|⟨m,hm,rfl,hpm,hall⟩
     ·exact(λt ht=>by
       by_cases e:t<k
       ·exact HA.out t e
       ·obtain rfl:t=k:=by omega
        exact hall:∀t,t<k+1→∀a,a<t→SS F a t=false)
     ·exfalso;omega
    case measure=>simp[intOf];omega
  ·obtain rfl:k=n:=by omega
   clear hl
   go_wp2
   go_ret2
   exact⟨-1,-1,rfl,.inl ⟨rfl,rfl,HA.out⟩,hb⟩
end
section
open Go.ChangeShapes Go.WideShapes Go.ChangeAt Go.RowKit Go.MapKept
variable {E:Nat→Prop}
def Da(l:List R3)(k:Nat):R3:=l.getD k ⟨0,0,0⟩
theorem FI(l:List R3):∀(k:Nat) (hk:k<l.length),(gq l)[k*3]?=some (.int .i64 l[k].d)∧(gq l)[k*3+1]?=some (.int .i64 l[k].f)∧(gq l)[k*3+2]?=some (.int .i64 l[k].c):=by
 induction l with
 |nil=>intro k hk;cases hk
 |cons r l ih =>
  intro k hk;cases k with
  |zero=>exact⟨rfl,rfl,rfl⟩
  |succ k =>
   have:=ih k (by simpa using hk);have e:gq (r::l)= [.int .i64 r.d,.int .i64 r.f,.int .i64 r.c]++gq l:=rfl;rw[e];refine⟨?_,?_,?_⟩
   ·rw[List.getElem?_append_right (by simp;omega),show(k+1)*3- [Value.int .i64 r.d,.int .i64 r.f,.int .i64 r.c].length=k*3 by simp;omega];exact this.1
   ·rw[List.getElem?_append_right (by simp;omega),show(k+1)*3+1- [Value.int .i64 r.d,.int .i64 r.f,.int .i64 r.c].length=k*3+1 by simp;omega];exact this.2.1
   ·rw[List.getElem?_append_right (by simp;omega),show(k+1)*3+2- [Value.int .i64 r.d,.int .i64 r.f,.int .i64 r.c].length=k*3+2 by simp;omega];exact this.2.2
theorem gJ.rng{w:World}{base:Nat}{v:Value}{l:List R3}(h:gJ w base v l):∃A C,v= .slice A l.length C∧l.length≤C∧C≤maxLen∧ux w A l.length (Da l):=by
 by_cases h0:0<l.length
 ·obtain⟨g,C,e,h1,h2,h3,_,h4⟩:=Zq h h0
  refine⟨_,C,e,h1,h2,.inr ⟨g,0,rfl,h3,λi hi=>?_⟩⟩;have:=FI l i hi;have eF:Da l i=l[i]:=by unfold Da;rw[List.getD_eq_getElem?_getD,List.getElem?_eq_getElem hi];rfl
  rw[eF,Nat.zero_add,h4 _ (by omega),h4 _ (by omega),h4 _ (by omega)];exact this
 ·have e0:l.length=0:=by omega
  rcases h.2 with⟨e,_⟩|⟨b,cap,cur,e,_,_,h1,h2,_⟩
  ·exact⟨none,0,by rw[e,e0],by omega,by unfold maxLen;omega,.inl e0⟩
  ·exact⟨_,cap,e,h1,h2,.inl e0⟩
theorem GN{l:List R3}{i j:Int}(h:Ov l.length (SS (Da l)) i j):decide (i<0)= !ZQ l:=by
 rcases h with⟨rfl,_,h⟩|⟨a,b,rfl,_,hab,hbn,hs,_⟩
 ·have :ZQ l=false:=by
   unfold ZQ;rw[List.any_eq_false];intro b hb;rw[Bool.not_eq_true,List.any_eq_false];intro a ha;rw[Bool.not_eq_true];exact h b (List.mem_range.1 hb) a (List.mem_range.1 ha)
  rw[this];rfl
 ·have :ZQ l=true:=by
   unfold ZQ;exact List.any_eq_true.2 ⟨b,List.mem_range.2 hbn,List.any_eq_true.2 ⟨a,List.mem_range.2 hab,hs⟩⟩
  rw[this,decide_eq_false (by omega)];rfl
theorem zG.pts{w:World}{cb:Nat}{V:CV}{c:Ck}(h:zG E w cb V c)(hn:0<c.parts.length):∃g off C,V.vp= .slice (some ⟨g,off,none⟩) c.parts.length C∧c.parts.length≤C∧C≤maxLen∧g<w.heap.size∧GL w g off c.parts∧yv w w.heap.size (some ⟨g,off,none⟩) c.parts:=by
 obtain⟨us,e1,hp,hin⟩:=h.prts;obtain⟨g,C,e,h1,h2,h3,_,h4⟩:=Zq hp hn;refine⟨g,0,C,e,h1,h2,h3,λk hk=>?_,λi hi=>⟨g,0,us[i]'(by omega),rfl,h3,h3,λj hj=>?_,(hin i hi (by omega)).keep (Nat.le_refl _) (λk hk _=>⟨rfl,hk⟩)⟩⟩
 ·rw[show 0+k*8+1=k*8+1 by omega,h4 (k*8+1) (by omega),QD _ us e1 k hk 1 (by decide),U5 _ hk]
  rfl
 ·rw[Nat.zero_add,h4 _ (by omega),QD _ us e1 i hi j hj]
theorem yv.up{w w':World}{A:Option Addr}{ps:List Pt}(h:yv w w.heap.size A ps)(hb:Below w.heap.size w w'):yv w' w'.heap.size A ps:=λi hi=>by
 obtain⟨g,off,u,e,a1,a2,a3,a4⟩:=(h.keep hb) i hi;exact⟨g,off,u,e,Nat.lt_of_lt_of_le a1 hb.size,a2,a3,a4.keep (Nat.le_refl _) (λk hk hP=>⟨rfl,Nat.lt_of_lt_of_le hP hb.size⟩)⟩
theorem Vu{o:Oper}{a:Act}(x:Operand)(ho:o.op= .load 32 x)(g:Nat)(hx:a.eval x= .pointer (some ⟨g,0,none⟩)){x0 x1 x2 x3 x4 x5 x6 x7:Value}(w:World){t:Nat}(h:zi w g t #[x0,x1,x2,x3,x4,x5,x6,x7]):(execOp a.eval o).run Tryz.prog w= .ok (.value (.agg #[x0,x1,x2,x3,x4])) w:=by
 have q0:=h.cell 0;have q1:=h.cell 1;have q2:=h.cell 2;have q3:=h.cell 3;have q4:=h.cell 4;simp only[qt,qu,qr]at q0 q1 q2 q3 q4;unfold execOp;simp only[ho,hx];go_simp
end
section
open Go.ChangeShapes Go.WideShapes Go.ChangeAt Go.RowKit Go.MapKept
variable {E:Nat→Prop}
def fl(w:World)(R:Except Er Qe)(e:Ending)(w':World):Prop:=Below w.heap.size w w'∧match R with
 | .error (ec,ek)=>e= .panicked (Vi ec ek)
 | .ok _=>e= .returned (.tuple #[])
theorem QY{w:World}{cb:Nat}{V:CV}{c:Ck}(h:zG E w cb V c)(hwf:V8 c.parts)(hno:c.jour=none∨c.expo=none):Calls Tryz.prog 38 #[.pointer (some ⟨cb,0,none⟩)] w (fl w (jK c)):=by
 have HR:=zk (show jK c= .error (138,0) by
  unfold jK;rcases hno with e|e
  ·rw[e]
  ·rw[e];cases c.jour<;>rfl)
 have c1:=h.has.cell 1;have c3:=h.has.cell 3;have lcb:=h.has.lt;simp only[qt,qu,qr]at c1 c3;have hno':=qx 138 0 w;cases hj:c.jour with
 |none =>
  rw[hj]at c1;change w.cell? ⟨cb,1,none⟩=some (.int .i64 (-1))at c1;clear hno hj;go_enter Tryz.func38,Tryz.ntmps38
  go_wp2_with (first
   |((go_at_call 63)
     refine hno'.mono ?_;rintro e w3 ⟨rfl,hw3⟩;(obtain rfl:w=w3:=hw3.symm)))
  exact⟨rfl,Below.refl _ _,by rw[HR.out];rfl⟩
 |some j =>
  have hx:c.expo=none:=by
   rcases hno with e|e
   ·rw[hj]at e;cases e
   ·exact e
  rw[hj]at c1;rw[hx]at c3;change w.cell? ⟨cb,1,none⟩=some (.int .i64 (j:Nat))at c1;change w.cell? ⟨cb,3,none⟩=some (.int .i64 (-1))at c3;have hj1:¬((j:Nat):Int)= -1:=by omega
  clear hno hj hx;go_enter Tryz.func38,Tryz.ntmps38
  go_wp2_with (first
   |((go_at_call 63)
     refine hno'.mono ?_;rintro e w3 ⟨rfl,hw3⟩;(obtain rfl:w=w3:=hw3.symm)))
  exact⟨rfl,Below.refl _ _,by rw[HR.out];rfl⟩
theorem Ka{w:World}{cb:Nat}{V:CV}{c:Ck}(h:zG E w cb V c)(hwf:V8 c.parts)(j x:Nat)(hj:c.jour=some j)(hx:c.expo=some x)(hxn0:yn c.parts x):Calls Tryz.prog 38 #[.pointer (some ⟨cb,0,none⟩)] w (fl w (jK c)):=by
 have hR:jK c=if 256<(yM c.parts x 0 (sz c.parts x)).length then .error (137,c.eat)else if ZQ (yM c.parts x 0 (sz c.parts x))then .error (136,c.eat)else .ok ⟨c.devs,j,c.parts,x,c.ro⟩:=by
  unfold jK;rw[hj,hx]
 obtain⟨g,op,Cp,evp,hCp1,hCp2,hg,hSz,hPt⟩:=h.pts (by have:=hxn0.1;omega);have c1:=h.has.cell 1;have c2:=h.has.cell 2;have c3:=h.has.cell 3;have c7:=h.has.cell 7;have lcb:=h.has.lt;have hH0:=h.has;have s0:=hSz x hxn0.1;rw[hj]at c1;rw[hx]at c3;rw[hj,hx,evp]at hH0;simp only[List.getElem?_toArray,List.getElem?_cons_zero,List.getElem?_cons_succ,evp]at c1 c2 c3 c7;change w.cell? ⟨cb,1,none⟩=some (.int .i64 (j:Nat))at c1;change w.cell? ⟨cb,3,none⟩=some (.int .i64 (x:Nat))at c3;have hreg:=λW (hb:Below w.heap.size w W)=>Up (hPt.up hb) ⟨hCp1,hCp2⟩ hwf V.vd (.int .i64 (j:Nat)) (.int .i64 (x:Nat)) (.bool c.ro) (x:Nat) 0 (sz c.parts x:Nat) (by have:=hxn0.1;have:=h.few.1;unfold zN;omega) (by unfold zN;omega) (by have:=hxn0.2.2;unfold zN;omega)
 obtain⟨NP,hNP⟩:∃NP,NP=c.parts.length:=⟨_,rfl⟩
 have hxn:x<NP:=by rw[hNP];exact hxn0.1
 have hH:zi w cb 61 #[V.vd,.int .i64 (j:Nat),.slice (some ⟨g,op,none⟩) NP Cp,.int .i64 (x:Nat),.bool c.ro,.map (some V.mb),V.vb,.int .i64 c.eat]:=by rw[hNP];exact hH0
 rw[←hNP]at c2 hCp1 hreg
 obtain⟨S,hS⟩:∃S,S=sz c.parts x:=⟨_,rfl⟩
 rw[←hS]at s0 hR hreg;generalize yM c.parts (x:Nat) 0 (S:Nat)=rg at *;have HR:=zk hR;have hj1:¬((j:Nat):Int)= -1:=by omega
 have hx1:¬((x:Nat):Int)= -1:=by omega
 have hny:=zX 138 0 w;clear hNP hS hR hH0 hSz hPt evp;go_enter Tryz.func38,Tryz.ntmps38
 go_wp2_with (first
  |((go_at_call 63)
    refine hny.mono ?_;rintro e w3 ⟨rfl,hw3⟩;(obtain rfl:w=w3:=hw3.symm)))
 refine wp_region_held_drew (S:=λwz=>Below w.heap.size w wz) (by kernel_rfl) ((Below.refl _ w).drew) (λhHeld=>?_);refine zC 0 (some 20) (.pointer (some ⟨cb,0,none⟩)) hHeld ?_;simp only[Act.put,ze,zg,zf];refine zC 1 (some 21) (.pointer (some ⟨cb,0,none⟩)) hHeld ?_;simp only[Act.put,ze,zg,zf];refine zC 2 (some 22) (.pointer (some ⟨cb,0,none⟩)) hHeld ?_;simp only[Act.put,ze,zg,zf];refine zP 3 (some 23) (.agg #[V.vd,.int .i64 (j:Nat),.slice (some ⟨g,op,none⟩) NP Cp,.int .i64 (x:Nat),.bool c.ro]) rfl rfl (λwz hz=>Vu _ rfl cb rfl wz (hH.below hz hH.lt)) hHeld ?_;simp only[Act.put,ze,zg,zf];refine zC 4 (some 24) (.pointer (some ⟨cb,0,none⟩)) hHeld ?_;simp only[Act.put,ze,zg,zf];refine zC 5 (some 25) (.pointer (some ⟨cb,0,none⟩)) hHeld ?_;simp only[Act.put,ze,zg,zf];refine zC 6 (some 26) (.pointer (some ⟨cb,0,none⟩)) hHeld ?_;simp only[Act.put,ze,zg,zf];refine zC 7 (some 27) (.pointer (some ⟨cb,3,none⟩)) hHeld ?_;simp only[Act.put,ze,zg,zf];refine zP 8 (some 28) (.int .i64 (x:Nat)) rfl rfl (λwz hz=>by have z0:=za hz c3;unfold execOp;go_simp) hHeld ?_;simp only[Act.put,ze,zg,zf];refine zC 9 (some 29) (.pointer (some ⟨cb,0,none⟩)) hHeld ?_;simp only[Act.put,ze,zg,zf];refine zC 10 (some 30) (.pointer (some ⟨cb,0,none⟩)) hHeld ?_;simp only[Act.put,ze,zg,zf];refine zC 11 (some 31) (.pointer (some ⟨cb,0,none⟩)) hHeld ?_;simp only[Act.put,ze,zg,zf];refine zC 12 (some 32) (.pointer (some ⟨cb,2,none⟩)) hHeld ?_;simp only[Act.put,ze,zg,zf];refine zP 13 (some 33) (.slice (some ⟨g,op,none⟩) NP Cp) rfl rfl (λwz hz=>by have z0:=za hz c2;unfold execOp;go_simp) hHeld ?_;simp only[Act.put,ze,zg,zf];refine zC 14 (some 34) (.pointer (some ⟨cb,0,none⟩)) hHeld ?_;simp only[Act.put,ze,zg,zf];refine zC 15 (some 35) (.pointer (some ⟨cb,0,none⟩)) hHeld ?_;simp only[Act.put,ze,zg,zf];refine zC 16 (some 36) (.pointer (some ⟨cb,0,none⟩)) hHeld ?_;simp only[Act.put,ze,zg,zf];refine zC 17 (some 37) (.pointer (some ⟨cb,3,none⟩)) hHeld ?_;simp only[Act.put,ze,zg,zf];refine zP 18 (some 38) (.int .i64 (x:Nat)) rfl rfl (λwz hz=>by have z0:=za hz c3;unfold execOp;go_simp) hHeld ?_;simp only[Act.put,ze,zg,zf];refine zP 19 (some 39) (.pointer (some ⟨g,op+x*8,none⟩)) rfl rfl (λwz _=>zJ _ _ rfl g op x NP Cp rfl rfl hxn wz) hHeld ?_;simp only[Act.put,ze,zg,zf];refine zC 20 (some 40) (.pointer (some ⟨g,op+x*8+1,none⟩)) hHeld ?_;simp only[Act.put,ze,zg,zf];refine zP 21 (some 41) (.int .i64 (S:Nat)) rfl rfl (λwz hz=>by have z0:=za hz s0;unfold execOp;go_simp) hHeld ?_;simp only[Act.put,ze,zg,zf];refine qn 22 (some 42) 12 #[.agg #[V.vd,.int .i64 (j:Nat),.slice (some ⟨g,op,none⟩) NP Cp,.int .i64 (x:Nat),.bool c.ro],.int .i64 (x:Nat),.int .i64 0,.int .i64 (S:Nat)] (by kernel_rfl) rfl rfl (by rfl) (by kernel_rfl) (hreg _ (zm (Below.refl _ w))) ?_;rintro e w4 ⟨v,rfl,hrg,hb4',hl257⟩;have hb4:Below w.heap.size w w4:=(zm (Below.refl _ w)).trans hb4';obtain⟨Ar,Cr,rfl,hr1,hr2,hrn⟩:=hrg.rng;refine .inl ⟨_,rfl,hb4,?_⟩;simp only[Act.put,ze,zg,zf];refine zP 23 (some 2) (.slice Ar rg.length Cr) rfl rfl (λ_ _=>rfl) hb4 ?_;simp only[Act.put,ze,zg,zf];refine wpAnyH_done (by kernel_rfl) ?_ _;have d7:=za hb4 c7;have ld:cb<w4.heap.size:=Nat.lt_of_lt_of_le lcb hb4.size;have hov:=UQ Ar rg.length Cr (Da rg) w4 (by omega) hr1 hr2 hrn;have hOV:=zk (λi j h=>GN (l:=rg) (i:=i) (j:=j) h)
 obtain⟨RL,hRL⟩:∃RL,RL=rg.length:=⟨_,rfl⟩
 rw[←hRL]at HR hr1 hl257 hov hOV ⊢;clear hrg hb4' hHeld hrn c1 c2 c3 c7 s0 hreg hRL hny hH;by_cases h256:256<RL
 ·have HR:=zk (HR.out.trans (if_pos h256))
  have hle:¬((RL:Nat):Int)≤256:=by omega
  have hno:=qx 137 c.eat w4
  go_wp2_with (first
   |((go_at_call 63)
     refine hno.mono ?_;rintro e w3 ⟨rfl,hw3⟩;(obtain rfl:w4=w3:=hw3.symm)))
  exact⟨rfl,hb4,by rw[HR.out];rfl⟩
 ·have HR:=zk (HR.out.trans (if_neg h256))
  have hle:((RL:Nat):Int)≤256:=by omega
  cases hO:ZQ rg with
  |true =>
   rw[hO]at HR hOV;have HR:=zk (HR.out.trans (if_pos rfl));clear hO
   go_wp2_with (first
    |((go_at_call 63)
      refine z6 w4 ?_;refine(zX 137 c.eat w4).mono ?_;rintro e w3 ⟨rfl,hw3⟩;(obtain rfl:w4=w3:=hw3.symm))
    |((go_at_call 66)
      refine hov.mono ?_;rintro e w5 ⟨i,j',rfl,hi,hb5⟩;have hneg:decide (i<0)=false:=hOV.out i j' hi;have d75:=za hb5 d7;(have ld5:cb<w5.heap.size:=Nat.lt_of_lt_of_le ld hb5.size))
    |((go_at_call 63)
      refine(qx 136 c.eat w5).mono ?_;rintro e w3 ⟨rfl,hw3⟩;(obtain rfl:w5=w3:=hw3.symm)))
   exact⟨rfl,hb4.trans (hb5.mono hb4.size),by rw[HR.out];rfl⟩
  |false =>
   rw[hO]at HR hOV;have HR:=zk (HR.out.trans (if_neg (by decide)));clear hO
   go_wp2_with (first
    |((go_at_call 63)
      refine z6 w4 ?_;refine(zX 137 c.eat w4).mono ?_;rintro e w3 ⟨rfl,hw3⟩;(obtain rfl:w4=w3:=hw3.symm))
    |((go_at_call 66)
      refine hov.mono ?_;rintro e w5 ⟨i,j',rfl,hi,hb5⟩;have hneg:decide (i<0)=true:=hOV.out i j' hi;have d75:=za hb5 d7;(have ld5:cb<w5.heap.size:=Nat.lt_of_lt_of_le ld hb5.size))
    |((go_at_call 63)
      refine(zX 136 c.eat w5).mono ?_;rintro e w3 ⟨rfl,hw3⟩;(obtain rfl:w5=w3:=hw3.symm)))
   go_end0
   exact⟨hb4.trans (hb5.mono hb4.size),by rw[HR.out]⟩
theorem gX{w:World}{cb:Nat}{V:CV}{c:Ck}(h:zG E w cb V c)(hwf:V8 c.parts)(hx:∀x,c.expo=some x→yn c.parts x):Calls Tryz.prog 38 #[.pointer (some ⟨cb,0,none⟩)] w (fl w (jK c)):=by
 cases hj:c.jour with
 |none=>exact QY h hwf (.inl hj)
 |some j =>
  cases he:c.expo with
  |none=>exact QY h hwf (.inr he)
  |some x=>exact Ka h hwf j x hj he (hx x he)
end
section
open Go.ChangeShapes Go.WideShapes Go.ChangeAt Go.RowKit Go.MapKept
variable {E:Nat→Prop}
theorem Qp(l:List Nd)(x:Nd):∀c,qL c (l++ [x])=match qL c l with
 | .error e=> .error e
 | .ok c1=>qX c1 x:=by
 induction l with
 |nil =>
  intro c;simp only[List.nil_append,qL];cases qX c x<;>rfl
 |cons y l ih =>
  intro c;simp only[List.cons_append,qL];cases qX c y with
  |error e=>rfl
  |ok c1=>exact ih c1
theorem XW(l r:List Nd)(e:Er):∀c,qL c l= .error e→qL c (l++r)= .error e:=by
 induction l with
 |nil=>intro c h;cases h
 |cons y l ih =>
  intro c h;simp only[List.cons_append,qL]at h ⊢;cases hy:qX c y with
  |error e'=>rw[hy]at h;exact h
  |ok c1=>rw[hy]at h;exact ih c1 h
structure yW (w:World) (B:Nat) (s:Qe) (vd vp:Value):Prop where
 devs:w.ownsRow B 3 1 vd s.devs.length (s.devs.map λd=> .int .i64 (d:Nat))
 prts:∃us,us.length=s.parts.length∧w.ownsRow B 47 8 vp s.parts.length (U8 s.parts us)∧∀i (h:i<s.parts.length) (h':i<us.length),Zt w (λg=>B≤g) s.parts[i] us[i]
theorem Zx{w:World}{b b' e size n:Nat}{v:Value}{xs:List Value}(h:w.ownsRow b e size v n xs)(hb:b'≤b):w.ownsRow b' e size v n xs:=by
 refine⟨h.1,?_⟩;rcases h.2 with h|⟨g,cap,cur,e,h1,h2⟩
 ·exact .inl h
 ·exact .inr ⟨g,cap,cur,e,Nat.le_trans hb h1,h2⟩
theorem zG.stk{w:World}{cb B:Nat}{V:CV}{c:Ck}(h:zG (λg=>B≤g) w cb V c)(hB:B≤cb)(s:Qe)(e1:s.devs=c.devs)(e2:s.parts=c.parts):yW w B s V.vd V.vp:=by
 obtain⟨us,e,hr,hi⟩:=h.prts;refine⟨by rw[e1];exact Zx h.devs hB,us,by rw[e2];exact e,by rw[e2];exact Zx hr hB,?_⟩;rw[e2];exact λi a b=>(hi i a b).keep (Nat.le_refl _) (λk hk hP=>⟨rfl,hP.2⟩)
theorem yW.keep{w w':World}{B:Nat}{s:Qe}{vd vp:Value}(h:yW w B s vd vp)(hs:w.heap.size≤w'.heap.size)(hk:∀k,k<w.heap.size→B≤k→w'.heap[k]?=w.heap[k]?):yW w' B s vd vp:=by
 obtain⟨us,e,hr,hi⟩:=h.prts;refine⟨zE h.devs (λg o e ho=>(hk g (Array.getElem?_eq_some_iff.1 ho).1 (qo h.devs e).2).trans ho),us,e,zE hr (λg o e ho=>(hk g (Array.getElem?_eq_some_iff.1 ho).1 (qo hr e).2).trans ho),λi a b=>(hi i a b).keep hs (λk h1 h2=>⟨hk k h1 h2,h2⟩)⟩
theorem uE(p q r:Addr)(w:World):
 CallsD Tryz.prog 35 #[.pointer (some p),.pointer (some q),.pointer (some r)] .returning w λe u' w'=>e= .returned (.tuple #[])∧u'= .returning∧w'=w:=by
 refine callsD_of_wpS Tryz.func35 rfl λc₀ cs hu=>?_
 apply wpS_seq;apply wpS_region;simp[wpOpsS,go_sem,recoverD,hu,Tryz.ntmps35,Exit.thenS];apply wpS_seq;apply wpS_seq;apply wpS_region;simp[wpOpsS,go_sem,Exit.thenS];refine wpS_cond (t:=true) (by simp[Act.eval,Array.replicate]) ?_;simp only[if_true];refine wpS_of_wp (wp_ret ?_);cases c₀
 simp_all [bodyPostS,results,Tryz.results35,Exit.thenS]
theorem Xe(c k:Int)(w:World):(Instr.typeAssert (.iface 91 (.agg #[.int .i64 c,.int .i64 k])) 20 91 true).run Tryz.prog w= .ok (.tuple #[.agg #[.int .i64 c,.int .i64 k],.bool true]) w:=by kernel_rfl
theorem Za(c k:Int)(p:Nat)(x0 x1 x2 x3 x4 y z:Value)(w:World)(hp:zi w p 32 #[x0,x1,x2,x3,x4])(hq:zi w (p+1) 25 #[y])(hr:zi w (p+2) 3 #[z]):
 CallsD Tryz.prog 35 #[.pointer (some ⟨p,0,none⟩),.pointer (some ⟨p+1,0,none⟩),.pointer (some ⟨p+2,0,none⟩)] (.panicking (Vi c k)) w λe u' w' =>
  e= .returned (.tuple #[])∧u'= .panicking [{ v:= .iface 91 (.agg #[.int .i64 c,.int .i64 k]),recovered:=true }] ∧
  zi w' p 32 #[.slice none 0 0,.int .i64 0,.slice none 0 0,.int .i64 0,.bool false]∧zi w' (p+1) 25 #[.int .i64 c]∧zi w' (p+2) 3 #[.int .i64 k]∧Below p w w':=by
 have hl:=hr.lt;refine callsD_of_wpS Tryz.func35 rfl λc₀ cs hu=>?_
 have hu':c₀.mode= .panicking [{ v:= .iface 91 (.agg #[.int .i64 c,.int .i64 k]),recovered:=false }]:=hu;apply wpS_seq;apply wpS_region;simp[wpOpsS,go_sem,recoverD,hu',Tryz.ntmps35,Exit.thenS];apply wpS_seq;apply wpS_seq;apply wpS_region;simp[wpOpsS,go_sem,Exit.thenS];refine wpS_cond (t:=false) (by simp[Act.eval,Array.replicate]) ?_;simp only[Bool.false_eq_true,if_false];refine wpS_of_wp (wp_skip ?_);simp only[Exit.thenS];apply wpS_seq;apply wpS_region;simp[wpOpsS,go_sem,Exit.thenS,Xe];apply wpS_seq;apply wpS_seq;apply wpS_region;simp[wpOpsS,go_sem,Exit.thenS];refine wpS_cond (t:=false) (by simp[Act.eval,Array.replicate]) ?_;simp only[Bool.false_eq_true,if_false];refine wpS_of_wp (wp_skip ?_);simp only[Exit.thenS];have a0:=hp.cell 0;have a1:=hp.cell 1;have a2:=hp.cell 2;have a3:=hp.cell 3;have a4:=hp.cell 4;have b0:=hp.free 0;have b1:=hp.free 1;have b2:=hp.free 2;have b3:=hp.free 3;have b4:=hp.free 4;have c0:=hq.cell 0;have c1:=hq.free 0;have d0:=hr.cell 0;have d1:=hr.free 0;have l0:=hp.lt;have l1:=hq.lt;refine wpS_of_wp ?_
 go_region
 all_goals
  refine⟨rfl,_,rfl,_,results_none rfl _ _ _,rfl,rfl,?_⟩
  exact⟨zn ((((hp.set5 _ _ _ _ _).other (p:=⟨p+1,0,none⟩) (by show p≠p+1;omega) _).other (p:=⟨p+2,0,none⟩) (by show p≠p+2;omega) _).alloc _),
   zn ((((hq.oth5 (g':=p) (by omega) _ _ _ _ _).putP 0 _).other (p:=⟨p+2,0,none⟩) (by show p+1≠p+2;omega) _).alloc _),
   zn ((((hr.oth5 (g':=p) (by omega) _ _ _ _ _).other (p:=⟨p+1,0,none⟩) (by show p+2≠p+1;omega) _).putP 0 _).alloc _),
   b5 _ _ _ _ _ _ _ _ (by omega)⟩
theorem XH{tmps:Array Value}{W:World}{p q r:Nat}{x0 x1 x2 x3 x4 y z:Value}(h2:tmps[4]?.getD undef= .pointer (some ⟨p,0,none⟩))(h3:tmps[5]?.getD undef= .pointer (some ⟨q,0,none⟩))(h4:tmps[6]?.getD undef= .pointer (some ⟨r,0,none⟩))
 (ha:zi W p 32 #[x0,x1,x2,x3,x4]) (hb:zi W q 25 #[y]) (hc:zi W r 3 #[z]):(results Tryz.f17 tmps).run Tryz.prog W= .ok (.tuple #[.agg #[x0,x1,x2,x3,x4],y,z]) W:=by
 have q0:=ha.cell 0;have q1:=ha.cell 1;have q2:=ha.cell 2;have q3:=ha.cell 3;have q4:=ha.cell 4;have r0:=hb.cell 0;have s0:=hc.cell 0;simp only[results,Tryz.results17];simp[h2,h3,h4,go_sem,q0,q1,q2,q3,q4,r0,s0]
end
section
open Go.ChangeShapes Go.WideShapes Go.ChangeAt Go.RowKit Go.MapKept
def fV(B:Nat)(R:Except Er Qe)(e:Ending)(w':World):Prop:=match R with
 | .error (ec,ek)=>e= .returned (.tuple #[.agg #[.slice none 0 0,.int .i64 0,.slice none 0 0,.int .i64 0,.bool false],.int .i64 (ec:Nat),.int .i64 ek])
 | .ok s=>∃vd vp,e= .returned (.tuple #[.agg #[vd,.int .i64 (s.jour:Nat),vp,.int .i64 (s.expo:Nat),.bool s.ro],.int .i64 0,.int .i64 (-1)])∧yW w' B s vd vp
theorem yF{w:World}{base e size n:Nat}{v:Value}{xs:List Value}(h:w.ownsRow base e size v n xs):∃A C,v= .slice A n C:=by
 rcases h.2 with⟨e,h0⟩|⟨b,cap,cur,e,_⟩
 ·exact⟨none,0,by rw[e,h0]⟩
 ·exact⟨_,_,e⟩
theorem zG.oth5{E:Nat→Prop}{w:World}{cb:Nat}{V:CV}{c:Ck}(h:zG E w cb V c)(g:Nat)(hq:¬V.own cb g)(hE:¬E g)(x0 x1 x2 x3 x4:Value):zG E (xI w g x0 x1 x2 x3 x4) cb V c:=((((h.other ⟨g,0,none⟩ hq hE x0).other ⟨g,1,none⟩ hq hE x1).other ⟨g,2,none⟩ hq hE x2).other ⟨g,3,none⟩ hq hE x3).other ⟨g,4,none⟩ hq hE x4
theorem j9.set5{F:Nat→Prop}{w w':World}(h:j9 F w w'){g:Nat}(hq:w.heap.size≤g)(x0 x1 x2 x3 x4:Value):j9 F w (xI w' g x0 x1 x2 x3 x4):=((((h.set (q:=⟨g,0,none⟩) (.inr hq) x0).set (q:=⟨g,1,none⟩) (.inr hq) x1).set (q:=⟨g,2,none⟩) (.inr hq) x2).set (q:=⟨g,3,none⟩) (.inr hq) x3).set (q:=⟨g,4,none⟩) (.inr hq) x4
def E4(B S:Nat)(g:Nat):Prop:=B≤g∧(g<S∨S+4≤g)
theorem fL(w:World)(a b c d:Obj):Below w.heap.size w ((((w.alloc a).alloc b).alloc c).alloc d):=((((Below.refl _ w).alloc (Nat.le_refl _) a).alloc (by simp) b).alloc (by simp;omega) c).alloc (by simp;omega) d
theorem Ft{n:Nd}{i:Nat}{e:Er}(h:qL (kj (zV 0 n.l)) (n.l.take i)= .error e):V9 n= .error e:=by
 have:=XW _ (n.l.drop i) e _ h;rw[List.take_append_drop]at this;unfold V9;unfold kj at this;rw[this]
theorem gF{n:Nd}{c:Ck}(h:qL (kj (zV 0 n.l)) n.l= .ok c):V9 n=jK c:=by
 unfold V9;unfold kj at h;rw[h]
theorem Z6{c:Ck}{s:Qe}(h:jK c= .ok s):∃j x,c.jour=some j∧c.expo=some x∧s=⟨c.devs,j,c.parts,x,c.ro⟩:=by
 unfold jK at h;cases hj:c.jour with
 |none=>rw[hj]at h;cases h
 |some j =>
  cases hx:c.expo with
  |none=>rw[hj,hx]at h;cases h
  |some x =>
   rw[hj,hx]at h;simp only at h
   split at h
   ·cases h
   ·split at h
    ·cases h
    ·cases h;exact⟨j,x,rfl,rfl,rfl⟩
theorem Yl{w w3 w'':World}{cb B:Nat}{V:CV}(hcb:B≤cb)(hB:B≤w.heap.size)(hO:j9 (V.own cb) w w3)(hbl:Below (w.heap.size+1) w3 w'')(hsz:w.heap.size+1≤w3.heap.size):j9 (V.own cb) w w'':=
 ⟨hbl.os.trans hO.os,hbl.tape.trans hO.tape,hbl.output.trans hO.output,Nat.le_trans hO.size hbl.size,λk hk hn=>(hbl.block k (by omega)).trans (hO.block k hk hn)⟩
theorem kF{w0 w:World}{cb B:Nat}{V:CV}(h:zG (λg=>B≤g) w cb V (kj []))(hBc:B≤cb)(hBw:B≤w.heap.size)(n:Nd)(A:Option Addr)(C:Nat)(hr:j0 w0 n A C)(hcb:w0.heap.size≤cb-1)(hb0:Below w0.heap.size w0 w)(hst:∀x ∈ n.l,JB x)(hlim:n.l.length≤80000):
 Calls Tryz.prog 17 #[.pointer (some ⟨cb,0,none⟩),.agg (qa n (.slice A n.l.length C))] w λe w'=>j9 (V.own cb) w w'∧fV B (V9 n) e w':=by
 obtain⟨L,hL⟩:∃L,L=n.l.length:=⟨_,rfl⟩
 have HL:=zk hL
 obtain⟨W4,hW4⟩:∃W4,W4=(((w.alloc (.cells #[.string (bs n.op),.string (bs n.s),.int .i64 n.n,.int .i64 n.a,.slice A L C] 24)).alloc (.cells #[.slice none 0 0,.int .i64 0,.slice none 0 0,.int .i64 0,.bool false] 32)).alloc (.cells #[.int .i64 0] 25)).alloc (.cells #[.int .i64 0] 3):=⟨_,rfl⟩
 have hb4:Below w.heap.size w W4:=by rw[hW4];exact fL w _ _ _ _
 have N4:zi W4 w.heap.size 24 #[.string (bs n.op),.string (bs n.s),.int .i64 n.n,.int .i64 n.a,.slice A L C]:=by rw[hW4];exact(((zi.new w _ _).alloc _).alloc _).alloc _
 have P4:zi W4 (w.heap.size+1) 32 #[.slice none 0 0,.int .i64 0,.slice none 0 0,.int .i64 0,.bool false]:=by rw[hW4];exact((zi.new_at (by simp)).alloc _).alloc _
 have Q4:zi W4 (w.heap.size+1+1) 25 #[.int .i64 0]:=by rw[hW4];exact(zi.new_at (by simp)).alloc _
 have R4:zi W4 (w.heap.size+1+1+1) 3 #[.int .i64 0]:=by rw[hW4];exact zi.new_at (by simp)
 have HZ4:=zk (show W4.heap.size=w.heap.size+4 by rw[hW4];simp);have h4:=(h.mono (E':=E4 B w.heap.size) (λk hk _ he=>⟨he,.inl hk⟩)).keep hb4;have lcb:=h.has.lt;have HW:=zk hW4;have hno:∀k,w.heap.size≤k→¬V.own cb k:=λk hk e=>by have:=(h.low e).2;omega
 have HNO:=zk hno;have hdc:=Fg h4 (⟨hr.rd,hb0.trans (hb4.mono hb0.size)⟩:V0 w0 W4 n.l A C) hcb hlim (λx hx ho=>(hst x hx).num (.inl ho));have hlen:=hr.len;have HST:=zk hst;rw[←hL]at hdc hlen hlim ⊢;rw[hW4]at hdc;clear hW4 hL hno hst;unfold qa
 go_enter_defers Tryz.func17,Tryz.ntmps17
 go_wp2_with (first
  |((go_at_call 36)
    refine hdc.mono ?_;rintro e w1 ⟨rfl,V1,H1,S1'⟩;(have S1:qT cb V W4 V1 w1:=by rw[HW.out];exact S1');have N1:zi w1 w.heap.size 24 #[.string (bs n.op),.string (bs n.s),.int .i64 n.n,.int .i64 n.a,.slice A L C]:=(S1.inner _ N4.lt (HNO.out _ (Nat.le_refl _))).1.trans N4;have n4:=N1.cell 4;have nl:=N1.lt;(simp only[qt,qu,qr]at n4)))
 clear hdc S1'
 go_loopw [17] (λz wr=>∃(i:Nat) (V':CV) (c':Ck),z= .int .i64 (i:Nat)∧i≤L∧zG (E4 B w.heap.size) wr cb V' c'∧qT cb V W4 V' wr∧Jt n.l (n.l.take i) c'∧Hid (qL (kj (zV 0 n.l)) (n.l.take i)= .ok c')) (λz _=>L-(intOf z).toNat)
 case atStart=>exact⟨0,V1,kj (zV 0 n.l),rfl,Nat.zero_le _,H1,S1,Jt.start _,zk rfl⟩
 case round =>
  obtain⟨i,V2,c2,rfl,hi,H2,S2,I2,HC2⟩:=hrel;have hBr:Below (cb-1) W4 wr:=S2.only.below (by have:=HZ4.out;omega) (λk hk=>by have:=(h4.low hk).1;omega);have hB0r:Below w0.heap.size w0 wr:=(hb0.trans (hb4.mono hb0.size)).trans (hBr.mono hcb);have hkeep:∀k,w.heap.size≤k→k<W4.heap.size→wr.heap[k]?=W4.heap[k]?∧¬V2.own cb k:=λk hk hk'=>S2.inner k hk' (HNO.out k hk)
  have Pr:zi wr (w.heap.size+1) 32 #[.slice none 0 0,.int .i64 0,.slice none 0 0,.int .i64 0,.bool false]:=(hkeep _ (by omega) P4.lt).1.trans P4;have Qr:zi wr (w.heap.size+1+1) 25 #[.int .i64 0]:=(hkeep _ (by omega) Q4.lt).1.trans Q4;have Rr:zi wr (w.heap.size+1+1+1) 3 #[.int .i64 0]:=(hkeep _ (by omega) R4.lt).1.trans R4;have HOr:=zk (show j9 (V.own cb) w wr from(j9.of hb4).trans S2.only);have HNO2:=zk (λk (hk:w.heap.size≤k) (hk':k<W4.heap.size)=>(hkeep k hk hk').2);by_cases hlt:i<L
  ·have hil:i<n.l.length:=by rw[←HL.out];exact hlt
   obtain⟨g,off,An,Cn,eA,hg,hat,hrn⟩:=V0.get (⟨hr.rd,hB0r⟩:V0 w0 wr n.l A C) hil;subst eA;have hint:(i:Int)<(L:Int):=by omega
   have hm:=HST.out _ (List.getElem_mem hil)
   have HSN:=zk (show qL (kj (zV 0 n.l)) (n.l.take (i+1))=qX c2 n.l[i] by
    rw[List.take_succ_eq_append_getElem hil,Qp,HC2.out])
   have HIV:=zk (λc' (q:qX c2 n.l[i]= .ok c')=>I2.step (l:=n.l) (q:=n.l.take i) (r:=n.l.drop (i+1)) (x:=n.l[i]) (by rw[List.getElem_cons_drop,List.take_append_drop]) hm q);have HTK:=zk (List.take_succ_eq_append_getElem hil);have hstm:=YK (H2.alloc (.cells #[.string (bs n.l[i].op),.string (bs n.l[i].s),.int .i64 n.l[i].n,.int .i64 n.l[i].a,.slice An n.l[i].l.length Cn] 24)) n.l[i] An Cn hrn hcb (hB0r.trans ((zh wr _).mono hB0r.size)) hm I2.nms I2.byts (by have h1:=I2.le8;have h2:=I2.devs;rw[h2,List.length_map];omega) (by have h1:=I2.nlen;have h2:(n.l.take i).length≤i:=(by simp;omega);omega);generalize n.l[i]=m at *;have hbn:=zh wr (.cells #[.string (bs m.op),.string (bs m.s),.int .i64 m.n,.int .i64 m.a,.slice An m.l.length Cn] 24);have S2n:qT cb V W4 V2 (wr.alloc (.cells #[.string (bs m.op),.string (bs m.s),.int .i64 m.n,.int .i64 m.a,.slice An m.l.length Cn] 24)):=S2.trans (qT.of hbn);have hBn:B≤(wr.alloc (.cells #[.string (bs m.op),.string (bs m.s),.int .i64 m.n,.int .i64 m.a,.slice An m.l.length Cn] 24)).heap.size:=by have:=hbn.size;have:=HOr.out.size;omega
   have Pn:=Pr.alloc (.cells #[.string (bs m.op),.string (bs m.s),.int .i64 m.n,.int .i64 m.a,.slice An m.l.length Cn] 24);have Qn:=Qr.alloc (.cells #[.string (bs m.op),.string (bs m.s),.int .i64 m.n,.int .i64 m.a,.slice An m.l.length Cn] 24);have Rn:=Rr.alloc (.cells #[.string (bs m.op),.string (bs m.s),.int .i64 m.n,.int .i64 m.a,.slice An m.l.length Cn] 24);have hw4s:=HZ4.out;cases hS:qX c2 m with
   |error er =>
    obtain⟨ec,ek⟩:=er;rw[hS]at hstm;have HR:=zk (Ft (n:=n) (i:=i+1) (HSN.out.trans hS));unfold qa at hstm;clear hS hw4s
    go_wp2_with (first
     |((refine zb 19 rfl ?_)
       (refine zc (some 19) _ rfl (by rfl) (zK _ _ rfl g off i L C rfl rfl hlt wr) ?_))
     |((refine zb 20 rfl ?_)
       refine zc (some 20) _ rfl (by rfl) (qA _ rfl g (off+i*5) rfl wr hat) ?_;(unfold Zs))
     |((go_at_call 37)
       refine hstm.mono ?_;(rintro e w5 ⟨ho5,rfl⟩)))
    have hne:∀k,w.heap.size≤k→k<W4.heap.size→w5.heap[k]?=(wr.alloc (.cells #[.string (bs m.op),.string (bs m.s),.int .i64 m.n,.int .i64 m.a,.slice An m.l.length Cn] 24)).heap[k]?:=λk hk hk'=>ho5.block k (Nat.lt_of_lt_of_le hk' S2n.only.size) (HNO2.out k hk hk')
    have hw4s:=HZ4.out;have P5:zi w5 (w.heap.size+1) 32 _:=(hne _ (by omega) (by omega)).trans Pn;have Q5:zi w5 (w.heap.size+1+1) 25 _:=(hne _ (by omega) (by omega)).trans Qn;have R5:zi w5 (w.heap.size+1+2) 3 _:=(hne _ (by omega) (by omega)).trans Rn;refine leaves_cons (f:=35) (args:=#[.pointer (some ⟨w.heap.size+1,0,none⟩),.pointer (some ⟨w.heap.size+1+1,0,none⟩),.pointer (some ⟨w.heap.size+1+1+1,0,none⟩)]) (by simp) (by simp[go_sem]) ?_;refine(Za ec ek (w.heap.size+1) _ _ _ _ _ _ _ _ P5 Q5 R5).mono ?_;rintro e u' w'' ⟨rfl,rfl,F1,F2,F3,hbl⟩;have S05:=((qT.of (cb:=cb) (V:=V) hb4).trans S2n).trans (⟨ho5,λ_ q=> .inl q⟩:qT cb V2 _ V2 w5);refine⟨_,XH rfl rfl rfl F1 F2 F3,Yl hBc hBw S05.only hbl (by have:=P5.lt;omega),?_⟩;rw[HR.out];rfl
   |ok c3 =>
    rw[hS]at hstm;have HS:=zk hS;unfold qa at hstm;clear hS hw4s
    go_wp2_with (first
     |((refine zb 19 rfl ?_)
       (refine zc (some 19) _ rfl (by rfl) (zK _ _ rfl g off i L C rfl rfl hlt wr) ?_))
     |((refine zb 20 rfl ?_)
       refine zc (some 20) _ rfl (by rfl) (qA _ rfl g (off+i*5) rfl wr hat) ?_;(unfold Zs))
     |((go_at_call 37)
       refine hstm.mono ?_;(rintro e w5 ⟨ho5,rfl,V5,H5,S5⟩)))
    go_roundw
    case rel=>exact⟨i+1,V5,c3,by go_num,by omega,H5.mono (λg _ _ he=>by
     rcases he with he|he
     ·exact he
     ·exact⟨Nat.le_trans hBn he,.inr (by have:=S2n.only.size;have:=HZ4.out;omega)⟩),S2n.trans S5,by rw[HTK.out];exact HIV.out c3 HS.out,zk (HSN.out.trans HS.out)⟩
    case measure=>simp[intOf];omega
  ·obtain rfl:i=L:=by omega
   have htk:n.l.take i=n.l:=by rw[HL.out,List.take_length]
   rw[htk]at I2 HC2;have hwh:=gX H2 I2.wf I2.expo;have HCH:=zk (gF HC2.out);have hw4s:=HZ4.out;have hrs:=hBr.size;have S02:=(qT.of (cb:=cb) (V:=V) hb4).trans S2;cases hS:jK c2 with
   |error er =>
    obtain⟨ec,ek⟩:=er;rw[hS]at hwh;have HR:=zk (HCH.out.trans hS);clear hS htk
    go_wp2_with (first
     |((go_at_call 38)
       refine hwh.mono ?_;(rintro e w5 ⟨hb5,rfl⟩)))
    have P5:=Pr.below hb5 Pr.lt;have Q5:=Qr.below hb5 Qr.lt;have R5:=Rr.below hb5 Rr.lt;refine leaves_cons (f:=35) (args:=#[.pointer (some ⟨w.heap.size+1,0,none⟩),.pointer (some ⟨w.heap.size+1+1,0,none⟩),.pointer (some ⟨w.heap.size+1+1+1,0,none⟩)]) (by simp) (by simp[go_sem]) ?_;refine(Za ec ek (w.heap.size+1) _ _ _ _ _ _ _ _ P5 Q5 R5).mono ?_;rintro e u' w'' ⟨rfl,rfl,F1,F2,F3,hbl⟩;refine⟨_,XH rfl rfl rfl F1 F2 F3,Yl hBc hBw (S02.trans (qT.of (cb:=cb) (V:=V2) hb5)).only hbl (by have:=P5.lt;omega),?_⟩;rw[HR.out];rfl
   |ok s =>
    rw[hS]at hwh;have HR:=zk (HCH.out.trans hS);obtain⟨j,x,ej,ex,es⟩:=Z6 hS;subst es;obtain⟨Ad,Cd,evd⟩:=yF H2.devs;obtain⟨us,eus,hrp,_⟩:=H2.prts;obtain⟨Ap,Cp,evp⟩:=yF hrp;have hcc:=H2.has;rw[ej,ex,evd,evp]at hcc;change zi wr cb 61 #[.slice Ad c2.devs.length Cd,.int .i64 (j:Nat),.slice Ap c2.parts.length Cp,.int .i64 (x:Nat),.bool c2.ro,.map (some V2.mb),V2.vb,.int .i64 c2.eat]at hcc;have HVD:=zk evd;have HVP:=zk evp
    obtain⟨DL,hDL⟩:∃DL,DL=c2.devs.length:=⟨_,rfl⟩
    obtain⟨PL,hPL⟩:∃PL,PL=c2.parts.length:=⟨_,rfl⟩
    rw[←hDL]at hcc HVD;rw[←hPL]at hcc HVP;clear hS htk hDL hPL evd evp ej ex
    go_wp2_with (first
     |((go_at_call 38)
       refine hwh.mono ?_;rintro e w5 ⟨hb5,rfl⟩;have P5:=Pr.below hb5 Pr.lt;have Q5:=Qr.below hb5 Qr.lt;have R5:=Rr.below hb5 Rr.lt;have K5:=hcc.below hb5 hcc.lt;have a0:=P5.cell 0;have a1:=P5.cell 1;have a2:=P5.cell 2;have a3:=P5.cell 3;have a4:=P5.cell 4;have f0:=P5.free 0;have f1:=P5.free 1;have f2:=P5.free 2;have f3:=P5.free 3;have f4:=P5.free 4;have b0:=Q5.cell 0;have g0:=Q5.free 0;have d0:=R5.cell 0;have i0:=R5.free 0;have k0:=K5.cell 0;have k1:=K5.cell 1;have k2:=K5.cell 2;have k3:=K5.cell 3;have k4:=K5.cell 4;simp only[qt,qu,qr]at a0 a1 a2 a3 a4 b0 d0 k0 k1 k2 k3 k4;have la:=P5.lt;have lb:=Q5.lt;have lc:=R5.lt;(have lk:=K5.lt)))
    refine leaves_cons (f:=35) (args:=#[.pointer (some ⟨w.heap.size+1,0,none⟩),.pointer (some ⟨w.heap.size+1+1,0,none⟩),.pointer (some ⟨w.heap.size+1+1+1,0,none⟩)]) (by simp) (by simp[go_sem]) ?_;refine(uE ⟨w.heap.size+1,0,none⟩ ⟨w.heap.size+1+1,0,none⟩ ⟨w.heap.size+1+1+1,0,none⟩ _).mono ?_;rintro e u' w'' ⟨rfl,rfl,rfl⟩;have n1:w.heap.size+1≠w.heap.size+1+1:=by omega
    have n2:w.heap.size+1≠w.heap.size+1+1+1:=by omega
    have n3:w.heap.size+1+1≠w.heap.size+1+1+1:=by omega
    have F1:=((P5.set5 (.slice Ad DL Cd) (.int .i64 (j:Nat)) (.slice Ap PL Cp) (.int .i64 (x:Nat)) (.bool c2.ro)).other (p:=⟨w.heap.size+1+1,0,none⟩) n1 (.int .i64 0)).other (p:=⟨w.heap.size+1+1+1,0,none⟩) n2 (.int .i64 (-1));have F2:=((Q5.oth5 (g':=w.heap.size+1) (Ne.symm n1) (.slice Ad DL Cd) (.int .i64 (j:Nat)) (.slice Ap PL Cp) (.int .i64 (x:Nat)) (.bool c2.ro)).putP 0 (.int .i64 0)).other (p:=⟨w.heap.size+1+1+1,0,none⟩) n3 (.int .i64 (-1));have F3:=((R5.oth5 (g':=w.heap.size+1) (Ne.symm n2) (.slice Ad DL Cd) (.int .i64 (j:Nat)) (.slice Ap PL Cp) (.int .i64 (x:Nat)) (.bool c2.ro)).other (p:=⟨w.heap.size+1+1,0,none⟩) (Ne.symm n3) (.int .i64 0)).putP 0 (.int .i64 (-1));have O5:=(S02.trans (qT.of (cb:=cb) (V:=V2) hb5)).only;have O7:=((O5.set5 (g:=w.heap.size+1) (by omega) (.slice Ad DL Cd) (.int .i64 (j:Nat)) (.slice Ap PL Cp) (.int .i64 (x:Nat)) (.bool c2.ro)).set (q:=⟨w.heap.size+1+1,0,none⟩) (.inr (by show w.heap.size≤w.heap.size+1+1;omega)) (.int .i64 0)).set (q:=⟨w.heap.size+1+1+1,0,none⟩) (.inr (by show w.heap.size≤w.heap.size+1+1+1;omega)) (.int .i64 (-1))
    have hE:∀k,w.heap.size≤k→k<w.heap.size+4→¬E4 B w.heap.size k:=λk h1 h2 e=>by
     rcases e.2 with q|q<;>omega
    have u2:=HNO2.out (w.heap.size+1+1) (by omega) (by omega);have u3:=HNO2.out (w.heap.size+1+1+1) (by omega) (by omega);have t2:=hE (w.heap.size+1+1) (by omega) (by omega);have t3:=hE (w.heap.size+1+1+1) (by omega) (by omega);have H7:=(((H2.keep hb5).oth5 (w.heap.size+1) (HNO2.out _ (by omega) (by omega)) (hE _ (by omega) (by omega)) (.slice Ad DL Cd) (.int .i64 (j:Nat)) (.slice Ap PL Cp) (.int .i64 (x:Nat)) (.bool c2.ro)).other ⟨w.heap.size+1+1,0,none⟩ u2 t2 (.int .i64 0)).other ⟨w.heap.size+1+1+1,0,none⟩ u3 t3 (.int .i64 (-1));have HSK:=(H7.mono (E':=λg=>B≤g) (λg _ _ he=>he.1)).stk hBc ⟨c2.devs,j,c2.parts,x,c2.ro⟩ rfl rfl;rw[HVD.out,HVP.out]at HSK;refine⟨_,XH rfl rfl rfl F1 F2 F3,O7,?_⟩;rw[HR.out];exact⟨_,_,rfl,HSK⟩
def qS(n:Nd):Except Er Qe:=if xm n=true then V9 n else .error (111,0)
theorem xV{n:Nd}(h:xm n=true)(hl:ZK n):∀x ∈ n.l,JB x:=λx hx=>by
 unfold xm at h;simp only[Bool.and_eq_true,List.all_eq_true]at h;exact UR (h.1.1.1 x hx) (hl.all x hx)
theorem Xx{fn:Func}{R:Ending→World→Prop}{a:Act}{W:World}{s t u g:Nat}{x0 x1 x2 x3 x4 y z:Value}(hr:fn.results= #[.cell s 32,.tmp t,.tmp u])(hs:a.tmps[s]?.getD undef= .pointer (some ⟨g,0,none⟩))(ht:a.tmps[t]?.getD undef=y)(hu:a.tmps[u]?.getD undef=z)(hH:zi W g 32 #[x0,x1,x2,x3,x4])(hd:a.defers= [])(h:R (.returned (.tuple #[.agg #[x0,x1,x2,x3,x4],y,z])) W):bodyPost Tryz.prog fn R .ret a W:=by
 have q0:=hH.cell 0;have q1:=hH.cell 1;have q2:=hH.cell 2;have q3:=hH.cell 3;have q4:=hH.cell 4;exact bodyPost_ret (by simp only[results,hr];simp[hs,ht,hu,go_sem,q0,q1,q2,q3,q4]) hd h
theorem yW.low{w:World}{B B':Nat}{s:Qe}{vd vp:Value}(h:yW w B s vd vp)(hb:B'≤B):yW w B' s vd vp:=by
 obtain⟨us,e,hr,hi⟩:=h.prts;exact⟨Zx h.devs hb,us,e,Zx hr hb,λi a b=>(hi i a b).keep (Nat.le_refl _) (λk _ hP=>⟨rfl,Nat.le_trans hb hP⟩)⟩
theorem G0(w3:World)(B:Nat):zG (λg=>B≤g) ((w3.alloc (.map #[] 0)).alloc (.cells #[.slice none 0 0,.int .i64 (-1),.slice none 0 0,.int .i64 (-1),.bool false,.map (some w3.heap.size),.slice none 0 0,.int .i64 0] 61)) (w3.heap.size+1) ⟨.slice none 0 0,.slice none 0 0,.slice none 0 0,w3.heap.size⟩ (kj []):=
 ⟨zi.new_at (by simp),⟨rfl,.inl ⟨rfl,rfl⟩⟩,⟨rfl,.inl ⟨rfl,rfl⟩⟩,⟨[],rfl,⟨rfl,.inl ⟨rfl,rfl⟩⟩,λi h=>absurd h (Nat.not_lt_zero _)⟩,⟨[],rfl,(Below.heap_alloc _ _ _ (by simp)).trans (heap_alloc_new w3 _),λi h=>absurd h (Nat.not_lt_zero _)⟩,List.Pairwise.nil,Nat.le_refl _,by decide⟩
theorem uP{w W:World}{B g:Nat}(h:Below B w W)(hg:B≤g)(x0 x1 x2 x3 x4:Value):Below B w (xI W g x0 x1 x2 x3 x4):=
 ((((h.setCell (p:=⟨g,0,none⟩) hg x0).setCell (p:=⟨g,1,none⟩) hg x1).setCell (p:=⟨g,2,none⟩) hg x2).setCell (p:=⟨g,3,none⟩) hg x3).setCell (p:=⟨g,4,none⟩) hg x4
theorem Fv(w:World){g k:Nat}(h:k≠g)(x0 x1 x2 x3 x4:Value):(xI w g x0 x1 x2 x3 x4).heap[k]?=w.heap[k]?:=
 (Below.heap_setCell _ ⟨g,4,none⟩ x4 k h).trans ((Below.heap_setCell _ ⟨g,3,none⟩ x3 k h).trans ((Below.heap_setCell _ ⟨g,2,none⟩ x2 k h).trans ((Below.heap_setCell _ ⟨g,1,none⟩ x1 k h).trans (Below.heap_setCell w ⟨g,0,none⟩ x0 k h))))
theorem y7{w3 w5:World}{a b:Obj}(h:j9 ((⟨.slice none 0 0,.slice none 0 0,.slice none 0 0,w3.heap.size⟩:CV).own (w3.heap.size+1)) ((w3.alloc a).alloc b) w5){k:Nat}(hk:k<w3.heap.size):w5.heap[k]?=w3.heap[k]?:=by
 refine(h.block k (by simp;omega) (λe=>?_)).trans ((vh w3 a b).block k hk);rcases e with e|e|e|e|e
 ·omega
 ·cases e
 ·cases e
 ·cases e
 ·have :k=w3.heap.size:=e;omega
theorem xY{w3 w5:World}{B:Nat}{a b:Obj}(h:j9 ((⟨.slice none 0 0,.slice none 0 0,.slice none 0 0,w3.heap.size⟩:CV).own (w3.heap.size+1)) ((w3.alloc a).alloc b) w5)(hB:B≤w3.heap.size):Below B w3 w5:=by
 have h0:=vh w3 a b;exact⟨h.os.trans h0.os,h.tape.trans h0.tape,h.output.trans h0.output,Nat.le_trans h0.size h.size,λk hk=>y7 h (by omega)⟩
theorem uI{w:World}{B:Nat}{s:Qe}{vd vp:Value}(h:yW w B s vd vp):∃A C,vp= .slice A s.parts.length C:=by
 obtain⟨us,e,hr,hi⟩:=h.prts;exact yF hr
theorem yq(n:Nd)(A:Option Addr)(C:Nat)(w:World)(h:j0 w n A C)(hl:ZK n):Calls Tryz.prog 8 #[.agg (qa n (.slice A n.l.length C))] w λe w'=>Below w.heap.size w w'∧fV w.heap.size (qS n) e w':=by
 obtain⟨L,hL⟩:∃L,L=n.l.length:=⟨_,rfl⟩
 have HL:=zk hL
 obtain⟨W2,hW2⟩:∃W2,W2=(w.alloc (.cells #[.string (bs n.op),.string (bs n.s),.int .i64 n.n,.int .i64 n.a,.slice A L C] 24)).alloc (.cells #[.slice none 0 0,.int .i64 0,.slice none 0 0,.int .i64 0,.bool false] 32):=⟨_,rfl⟩
 have hb2:Below w.heap.size w W2:=by rw[hW2];exact vh w _ _
 have N2:zi W2 w.heap.size 24 #[.string (bs n.op),.string (bs n.s),.int .i64 n.n,.int .i64 n.a,.slice A L C]:=by rw[hW2];exact(zi.new w _ _).alloc _
 have P2:zi W2 (w.heap.size+1) 32 #[.slice none 0 0,.int .i64 0,.slice none 0 0,.int .i64 0,.bool false]:=by rw[hW2];exact zi.new_at (by simp)
 have hrt:=Fb n A C W2 (h.grow hb2);have HW:=zk hW2;have hlen:=h.len;have HCK:=zk (λw3 (hb:Below w.heap.size w w3) (hz:w.heap.size+2≤w3.heap.size) (hst:∀x ∈ n.l,JB x)=>kF (G0 w3 (w.heap.size+2)) (by omega) (by simp;omega) n A C h (by have:=hb.size;omega) (hb.trans ((vh w3 _ _).mono hb.size)) hst hl.len);have HST:=zk (λ(q:xm n=true)=>xV q hl);rw[←hL]at hrt hlen HCK ⊢;rw[hW2]at hrt;clear hW2 hL;cases hR:xm n with
 |false =>
  have HR:=zk (show qS n= .error (111,0) by unfold qS;rw[if_neg (by rw[hR];decide)]);rw[hR]at hrt;clear hR;unfold qa at hrt ⊢;go_enter Tryz.func8,Tryz.ntmps8
  go_wp2_with (first
   |((go_at_call 16)
     refine hrt.mono ?_;rintro e w3 ⟨rfl,hb3'⟩;(have hb3:Below W2.heap.size W2 w3:=by rw[HW.out];exact hb3');have P3:=P2.below hb3 P2.lt;have a0:=P3.cell 0;have a1:=P3.cell 1;have a2:=P3.cell 2;have a3:=P3.cell 3;have a4:=P3.cell 4;have f0:=P3.free 0;have f1:=P3.free 1;have f2:=P3.free 2;have f3:=P3.free 3;have f4:=P3.free 4;(have la:=P3.lt)))
  refine Xx rfl rfl rfl rfl (P3.set5 _ _ _ _ _) rfl ?_;refine⟨uP (hb2.trans (hb3.mono hb2.size)) (Nat.le_succ _) _ _ _ _ _,?_⟩;rw[HR.out];rfl
 |true =>
  have HR:=zk (show qS n=V9 n by unfold qS;rw[if_pos hR]);have hst:=HST.out hR;have HCC:=zk (λw3 hb hz=>HCK.out w3 hb hz hst);rw[hR]at hrt;clear hR hst;cases hC:V9 n with
  |error er =>
   obtain⟨ec,ek⟩:=er;have HR:=zk (HR.out.trans hC);rw[hC]at HCC;clear hC;unfold qa at hrt HCC ⊢;go_enter Tryz.func8,Tryz.ntmps8
   go_wp2_with (first
    |((go_at_call 16)
      refine hrt.mono ?_;rintro e w3 ⟨rfl,hb3'⟩;(have hb3:Below W2.heap.size W2 w3:=by rw[HW.out];exact hb3');have hb03:=hb2.trans (hb3.mono hb2.size);have P3:=P2.below hb3 P2.lt;have N3:=N2.below hb3 N2.lt;have hck:=HCC.out w3 hb03 (by have:=P3.lt;omega);have b0:=N3.cell 0;have b1:=N3.cell 1;have b2:=N3.cell 2;have b3:=N3.cell 3;have b4:=N3.cell 4;simp only[qt,qu,qr]at b0 b1 b2 b3 b4;have la:=P3.lt;(have lb:=N3.lt))
    |((refine zb 11 rfl ?_)
      (refine zq (some 11) (.map (some w3.heap.size)) (w3.alloc (.map #[] 0)) rfl (by rfl) (by kernel_rfl) ?_))
    |((go_at_call 17)
      refine hck.mono ?_;rintro e w5 ⟨ho5,rfl⟩;have hP5:=y7 ho5 (k:=w.heap.size+1) (by omega);have P5:zi w5 (w.heap.size+1) 32 #[.slice none 0 0,.int .i64 0,.slice none 0 0,.int .i64 0,.bool false]:=hP5.trans P3;have a0:=P5.cell 0;have a1:=P5.cell 1;have a2:=P5.cell 2;have a3:=P5.cell 3;have a4:=P5.cell 4;have f0:=P5.free 0;have f1:=P5.free 1;have f2:=P5.free 2;have f3:=P5.free 3;have f4:=P5.free 4;(have lp:=P5.lt)))
   refine Xx rfl rfl rfl rfl (P5.set5 _ _ _ _ _) rfl ?_;refine⟨uP (hb03.trans (xY ho5 hb03.size)) (Nat.le_succ _) _ _ _ _ _,?_⟩;rw[HR.out];rfl
  |ok s =>
   have HR:=zk (HR.out.trans hC);rw[hC]at HCC;clear hC;unfold qa at hrt HCC ⊢;go_enter Tryz.func8,Tryz.ntmps8
   go_wp2_with (first
    |((go_at_call 16)
      refine hrt.mono ?_;rintro e w3 ⟨rfl,hb3'⟩;(have hb3:Below W2.heap.size W2 w3:=by rw[HW.out];exact hb3');have hb03:=hb2.trans (hb3.mono hb2.size);have P3:=P2.below hb3 P2.lt;have N3:=N2.below hb3 N2.lt;have hck:=HCC.out w3 hb03 (by have:=P3.lt;omega);have b0:=N3.cell 0;have b1:=N3.cell 1;have b2:=N3.cell 2;have b3:=N3.cell 3;have b4:=N3.cell 4;simp only[qt,qu,qr]at b0 b1 b2 b3 b4;have la:=P3.lt;(have lb:=N3.lt))
    |((refine zb 11 rfl ?_)
      (refine zq (some 11) (.map (some w3.heap.size)) (w3.alloc (.map #[] 0)) rfl (by rfl) (by kernel_rfl) ?_))
    |((go_at_call 17)
      refine hck.mono ?_;rintro e w5 ⟨ho5,vd,vp,rfl,hsk⟩;obtain⟨Ad,Cd,evd⟩:=yF hsk.devs;obtain⟨Ap,Cp,evp⟩:=uI hsk;subst evd evp;have hP5:=y7 ho5 (k:=w.heap.size+1) (by omega);have P5:zi w5 (w.heap.size+1) 32 #[.slice none 0 0,.int .i64 0,.slice none 0 0,.int .i64 0,.bool false]:=hP5.trans P3;have a0:=P5.cell 0;have a1:=P5.cell 1;have a2:=P5.cell 2;have a3:=P5.cell 3;have a4:=P5.cell 4;have f0:=P5.free 0;have f1:=P5.free 1;have f2:=P5.free 2;have f3:=P5.free 3;have f4:=P5.free 4;(have lp:=P5.lt)))
   refine Xx rfl rfl rfl rfl (P5.set5 _ _ _ _ _) rfl ?_;refine⟨uP (hb03.trans (xY ho5 hb03.size)) (Nat.le_succ _) _ _ _ _ _,?_⟩;rw[HR.out];refine⟨_,_,rfl,(hsk.keep (by simp) (λk hk hB=>?_)).low (by omega)⟩;exact Fv w5 (by omega) _ _ _ _ _
end
section
inductive ZS:Nd→Nd→Prop where
 |mk (o s:List UInt8) (n a b:Int) (l l':List Nd):l.length=l'.length→(∀i (h:i<l.length) (h':i<l'.length),ZS l[i] l'[i])→ZS (.mk o s n a l) (.mk o s n b l')
end
end Go.Proofs.YtgljdaakdpgpkaaGreatDoor
