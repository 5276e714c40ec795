import Derived.Test.YteaddcdpgcgggaaGreatDoorJoint06
namespace Go.Proofs.YteaddcdpgcgggaaGreatDoor
set_option linter.unusedVariables false
set_option maxRecDepth 100000
set_option maxHeartbeats 40000000
section
open Go.ChangeShapes Go.WideShapes Go.ChangeAt Go.RowKit Go.MapKept
variable {E:Nat→Prop}
def zcM(w:World)(V:CV)(cb:Nat)(R:Except Er Mn)(e:Ending)(w':World):Prop:=Below w.heap.size w w'∧match R with
 | .error (c,k)=>e= .panicked (XT c k)
 | .ok m=>∃A C,e= .returned (Uc m (.slice A m.bytes.length C))∧m.bytes.length≤C∧C≤maxLen∧jK w' (λg=>¬V.own cb g) A m.bytes
theorem JR{fn:Func}{R:Ending→World→Prop}{a:Act}{W:World}{s g:Nat}{x0 x1 x2:Value}(hr:fn.results= #[.cell s 111])(hs:a.tmps[s]?.getD undef= .pointer (some ⟨g,0,none⟩))(hH:zm W g 111 #[x0,x1,x2])(hd:a.defers= [])(h:R (.returned (.agg #[x0,x1,x2])) W):bodyPost Tryz.prog fn R .ret a W:=by
 have q0:=hH.cell 0;have q1:=hH.cell 1;have q2:=hH.cell 2;exact bodyPost_ret (by simp only[results,hr];simp[hs,go_sem,q0,q1,q2]) hd h
theorem zm.set3{w:World}{g t:Nat}{a b c:Value}(h:zm w g t #[a,b,c])(x0 x1 x2:Value):zm (((w.setCell ⟨g,0,none⟩ x0).setCell ⟨g,1,none⟩ x1).setCell ⟨g,2,none⟩ x2) g t #[x0,x1,x2]:=((h.putP 0 x0).putP 1 x1).putP 2 x2
theorem zda{w W:World}{B g:Nat}(h:Below B w W)(hg:B≤g)(x0 x1 x2:Value):Below B w (((W.setCell ⟨g,0,none⟩ x0).setCell ⟨g,1,none⟩ x1).setCell ⟨g,2,none⟩ x2):=((h.setCell (p:=⟨g,0,none⟩) hg x0).setCell (p:=⟨g,1,none⟩) hg x1).setCell (p:=⟨g,2,none⟩) hg x2
theorem Kq{w:World}{cb:Nat}{V:CV}{c:Ck}(h:qq E w cb V c)(n:Nd)(A:Option Addr)(L C:Nat)(ws:List (List UInt8))(v:Value)(hs:QD w v ws)(hl:ws.length≤100):Calls Tryz.prog 79 #[.pointer (some ⟨cb,0,none⟩),.agg (qD n (.slice A L C)),v] w (zcM w V cb (jk c.names n ws)):=by
 obtain⟨W1,hW1⟩:∃W1,W1=(w.alloc (.cells #[.string (bs n.op),.string (bs n.s),.int .i64 n.n,.int .i64 n.a,.slice A L C] 24)).alloc (.cells #[.string ⟨#[]⟩,.int .i64 0,.slice none 0 0] 111):=⟨_,rfl⟩
 have h1:qq E W1 cb V c:=by rw[hW1];exact(h.alloc _).alloc _
 have hn1:zm W1 w.heap.size 24 #[.string (bs n.op),.string (bs n.s),.int .i64 n.n,.int .i64 n.a,.slice A L C]:=by rw[hW1];exact(zm.new w _ _).alloc _
 have hm1:zm W1 (w.heap.size+1) 111 #[.string ⟨#[]⟩,.int .i64 0,.slice none 0 0]:=by rw[hW1];exact zm.new_at (by simp)
 have hb1:Below w.heap.size w W1:=by rw[hW1];exact yr w _ _
 obtain⟨us,e1,hmb0,hin⟩:=h.nms;have hmb:=(hb1.block V.mb (Array.getElem?_eq_some_iff.1 hmb0).1).trans hmb0;have hun:=h1.uniq;have c5:=h1.has.cell 5;have lc:=h1.has.lt;have nc1:=hn1.cell 1;have nc3:=hn1.cell 3;simp only[qH,qG,qI]at c5 nc1 nc3;have HW:Hid (W1=(w.alloc (.cells #[.string (bs n.op),.string (bs n.s),.int .i64 n.n,.int .i64 n.a,.slice A L C] 24)).alloc (.cells #[.string ⟨#[]⟩,.int .i64 0,.slice none 0 0] 111)):=hW1;clear hW1;unfold jk;cases hk:lk c.names n.s with
 |none =>
  have HU:Hid (lkV c.names us n.s= .agg #[.string ⟨#[]⟩,.int .i64 0,.slice none 0 0]):=Ja hk;have HB:Hid ((lk c.names n.s).isSome=false):=by rw[hk];rfl
  clear hk;unfold qD;go_enter Tryz.func79,Tryz.ntmps79
  go_wp2
  rw[←HW.out];refine wp_region_held_drew (S:=λwz=>wz.cell? ⟨cb,5,none⟩=some (.map (some V.mb))∧wz.cell? ⟨w.heap.size,1,none⟩=some (.string (bs n.s))∧wz.heap[V.mb]?=some (.map (j5 c.names us).toArray c.names.length)∧Below W1.heap.size W1 wz) (by kernel_rfl) (⟨c5,nc1,hmb,(Below.refl _ W1).drew⟩) (λhHeld=>?_);refine zw 0 (some 10) (.pointer (some ⟨cb,0,none⟩)) hHeld ?_;simp only[Act.put,zh,zf,zg];refine zw 1 (some 11) (.pointer (some ⟨cb,0,none⟩)) hHeld ?_;simp only[Act.put,zh,zf,zg];refine zw 2 (some 12) (.pointer (some ⟨cb,5,none⟩)) hHeld ?_;simp only[Act.put,zh,zf,zg];refine zD 3 (some 13) (.map (some V.mb)) rfl rfl (λwz hz=>by obtain⟨z0,z1,z2,z3⟩:=hz;unfold execOp;go_simp) hHeld ?_;simp only[Act.put,zh,zf,zg];refine zw 4 (some 14) (.pointer (some ⟨w.heap.size,1,none⟩)) hHeld ?_;simp only[Act.put,zh,zf,zg];refine zD 5 (some 15) (.string (bs n.s)) rfl rfl (λwz hz=>by obtain⟨z0,z1,z2,z3⟩:=hz;unfold execOp;go_simp) hHeld ?_;simp only[Act.put,zh,zf,zg];refine zD 6 (some 16) (.tuple #[.agg #[.string ⟨#[]⟩,.int .i64 0,.slice none 0 0],.bool false]) rfl rfl (λwz hz=>(ZC _ _ rfl hz.2.2.1 e1 hun n.s rfl rfl).trans (by rw[HU.out,HB.out])) hHeld ?_;simp only[Act.put,zh,zf,zg];refine zw 7 (some 9) (.tuple #[.agg #[.string ⟨#[]⟩,.int .i64 0,.slice none 0 0],.bool false]) hHeld ?_;simp only[Act.put,zh,zf,zg];refine zw 8 (some 17) (.agg #[.string ⟨#[]⟩,.int .i64 0,.slice none 0 0]) hHeld ?_;simp only[Act.put,zh,zf,zg];refine zw 9 (some 18) (.bool false) hHeld ?_;simp only[Act.put,zh,zf,zg]
  have hH2:(W1.drew.alloc (.cells #[.string ⟨#[]⟩,.int .i64 0,.slice none 0 0] 111)).cell? ⟨cb,5,none⟩=some (.map (some V.mb))∧(W1.drew.alloc (.cells #[.string ⟨#[]⟩,.int .i64 0,.slice none 0 0] 111)).cell? ⟨w.heap.size,1,none⟩=some (.string (bs n.s))∧(W1.drew.alloc (.cells #[.string ⟨#[]⟩,.int .i64 0,.slice none 0 0] 111)).heap[V.mb]?=some (.map (j5 c.names us).toArray c.names.length)∧Below W1.heap.size W1 (W1.drew.alloc (.cells #[.string ⟨#[]⟩,.int .i64 0,.slice none 0 0] 111)):=⟨za (zl W1.drew _) hHeld.1,za (zl W1.drew _) hHeld.2.1,(Below.heap_alloc W1.drew _ V.mb (Array.getElem?_eq_some_iff.1 hmb).1).trans hHeld.2.2.1,hHeld.2.2.2.trans ((zl W1.drew _))⟩
  refine vz 10 (by kernel_rfl) (QC (some 7) (.pointer (some ⟨W1.heap.size,0,none⟩)) (W1.drew.alloc (.cells #[.string ⟨#[]⟩,.int .i64 0,.slice none 0 0] 111)) rfl rfl (by rfl) (by kernel_rfl) ⟨hH2,?_⟩);simp only[Act.put,zh,zf,zg];have hM2:zm (W1.drew.alloc (.cells #[.string ⟨#[]⟩,.int .i64 0,.slice none 0 0] 111)) W1.heap.size 111 #[.string ⟨#[]⟩,.int .i64 0,.slice none 0 0]:=zm.new_at rfl;have hBel:Below W1.heap.size W1 ((W1.drew.alloc (.cells #[.string ⟨#[]⟩,.int .i64 0,.slice none 0 0] 111)).setRow W1.heap.size #[.string ⟨#[]⟩,.int .i64 0,.slice none 0 0]):=jd hH2.2.2.2 (Nat.le_refl _) _
  have hH3:((W1.drew.alloc (.cells #[.string ⟨#[]⟩,.int .i64 0,.slice none 0 0] 111)).setRow W1.heap.size #[.string ⟨#[]⟩,.int .i64 0,.slice none 0 0]).cell? ⟨cb,5,none⟩=some (.map (some V.mb))∧((W1.drew.alloc (.cells #[.string ⟨#[]⟩,.int .i64 0,.slice none 0 0] 111)).setRow W1.heap.size #[.string ⟨#[]⟩,.int .i64 0,.slice none 0 0]).cell? ⟨w.heap.size,1,none⟩=some (.string (bs n.s))∧((W1.drew.alloc (.cells #[.string ⟨#[]⟩,.int .i64 0,.slice none 0 0] 111)).setRow W1.heap.size #[.string ⟨#[]⟩,.int .i64 0,.slice none 0 0]).heap[V.mb]?=some (.map (j5 c.names us).toArray c.names.length)∧Below W1.heap.size W1 ((W1.drew.alloc (.cells #[.string ⟨#[]⟩,.int .i64 0,.slice none 0 0] 111)).setRow W1.heap.size #[.string ⟨#[]⟩,.int .i64 0,.slice none 0 0]):=⟨za hBel c5,za hBel nc1,(hBel.block V.mb (Array.getElem?_eq_some_iff.1 hmb).1).trans hmb,hBel⟩
  refine vz 11 (by kernel_rfl) (vg none ((W1.drew.alloc (.cells #[.string ⟨#[]⟩,.int .i64 0,.slice none 0 0] 111)).setRow W1.heap.size #[.string ⟨#[]⟩,.int .i64 0,.slice none 0 0]) rfl rfl (by rfl) (qP 111 _ _ rfl W1.heap.size rfl #[.string ⟨#[]⟩,.int .i64 0,.slice none 0 0] rfl 111 (by kernel_rfl) _ hM2 rfl (by kernel_rfl)) ⟨hH3,?_⟩);simp only[Act.put];refine zD 12 (some 8) (.bool false) rfl rfl (λ_ _=>rfl) hH3 ?_;simp only[Act.put,zh,zf,zg];have hM3:zm ((W1.drew.alloc (.cells #[.string ⟨#[]⟩,.int .i64 0,.slice none 0 0] 111)).setRow W1.heap.size #[.string ⟨#[]⟩,.int .i64 0,.slice none 0 0]) W1.heap.size 111 #[.string ⟨#[]⟩,.int .i64 0,.slice none 0 0]:=hM2.setRow _;refine wpAnyH_done (by kernel_rfl) ?_ _;generalize (W1.drew.alloc (.cells #[.string ⟨#[]⟩,.int .i64 0,.slice none 0 0] 111)).setRow W1.heap.size #[.string ⟨#[]⟩,.int .i64 0,.slice none 0 0]=W2 at hBel hM3 ⊢;have nc3b:=za hBel nc3
  go_wp2_with (first
   |((go_at_call 62)
     refine(jA 131 n.a W2).mono ?_;(rintro e w3 ⟨rfl,rfl⟩)))
  exact⟨rfl,hb1.trans (hBel.mono hb1.size),rfl⟩
 |some m =>
  obtain⟨i,hi,e2,e3⟩:∃i,∃hi:i<c.names.length,c.names[i].1=n.s∧c.names[i].2=m:=by
   rcases kf (ns:=c.names) (s:=n.s)with⟨q,_⟩|⟨i,hi,q1,q2,_⟩
   ·rw[hk]at q;cases q
   ·exact⟨i,hi,q1,by rw[hk]at q2;cases q2;rfl⟩
  obtain⟨Am,Cm,em,am,bm,hby⟩:=(hin i hi (by omega)).bytes
  have HU:Hid (lkV c.names us n.s= .agg #[.string (bs m.word),.int .i64 (m.node:Nat),.slice Am m.bytes.length Cm]):=by
   have:=ue e1 hun hi;rw[e2,em,e3]at this;exact this
  have HB:Hid ((lk c.names n.s).isSome=true):=by rw[hk];rfl
  rw[e3]at am hby;clear hk em hin;unfold qD;go_enter Tryz.func79,Tryz.ntmps79
  go_wp2
  rw[←HW.out];refine wp_region_held_drew (S:=λwz=>wz.cell? ⟨cb,5,none⟩=some (.map (some V.mb))∧wz.cell? ⟨w.heap.size,1,none⟩=some (.string (bs n.s))∧wz.heap[V.mb]?=some (.map (j5 c.names us).toArray c.names.length)∧Below W1.heap.size W1 wz) (by kernel_rfl) (⟨c5,nc1,hmb,(Below.refl _ W1).drew⟩) (λhHeld=>?_);refine zw 0 (some 10) (.pointer (some ⟨cb,0,none⟩)) hHeld ?_;simp only[Act.put,zh,zf,zg];refine zw 1 (some 11) (.pointer (some ⟨cb,0,none⟩)) hHeld ?_;simp only[Act.put,zh,zf,zg];refine zw 2 (some 12) (.pointer (some ⟨cb,5,none⟩)) hHeld ?_;simp only[Act.put,zh,zf,zg];refine zD 3 (some 13) (.map (some V.mb)) rfl rfl (λwz hz=>by obtain⟨z0,z1,z2,z3⟩:=hz;unfold execOp;go_simp) hHeld ?_;simp only[Act.put,zh,zf,zg];refine zw 4 (some 14) (.pointer (some ⟨w.heap.size,1,none⟩)) hHeld ?_;simp only[Act.put,zh,zf,zg];refine zD 5 (some 15) (.string (bs n.s)) rfl rfl (λwz hz=>by obtain⟨z0,z1,z2,z3⟩:=hz;unfold execOp;go_simp) hHeld ?_;simp only[Act.put,zh,zf,zg];refine zD 6 (some 16) (.tuple #[.agg #[.string (bs m.word),.int .i64 (m.node:Nat),.slice Am m.bytes.length Cm],.bool true]) rfl rfl (λwz hz=>(ZC _ _ rfl hz.2.2.1 e1 hun n.s rfl rfl).trans (by rw[HU.out,HB.out])) hHeld ?_;simp only[Act.put,zh,zf,zg];refine zw 7 (some 9) (.tuple #[.agg #[.string (bs m.word),.int .i64 (m.node:Nat),.slice Am m.bytes.length Cm],.bool true]) hHeld ?_;simp only[Act.put,zh,zf,zg];refine zw 8 (some 17) (.agg #[.string (bs m.word),.int .i64 (m.node:Nat),.slice Am m.bytes.length Cm]) hHeld ?_;simp only[Act.put,zh,zf,zg];refine zw 9 (some 18) (.bool true) hHeld ?_;simp only[Act.put,zh,zf,zg]
  have hH2:(W1.drew.alloc (.cells #[.string ⟨#[]⟩,.int .i64 0,.slice none 0 0] 111)).cell? ⟨cb,5,none⟩=some (.map (some V.mb))∧(W1.drew.alloc (.cells #[.string ⟨#[]⟩,.int .i64 0,.slice none 0 0] 111)).cell? ⟨w.heap.size,1,none⟩=some (.string (bs n.s))∧(W1.drew.alloc (.cells #[.string ⟨#[]⟩,.int .i64 0,.slice none 0 0] 111)).heap[V.mb]?=some (.map (j5 c.names us).toArray c.names.length)∧Below W1.heap.size W1 (W1.drew.alloc (.cells #[.string ⟨#[]⟩,.int .i64 0,.slice none 0 0] 111)):=⟨za (zl W1.drew _) hHeld.1,za (zl W1.drew _) hHeld.2.1,(Below.heap_alloc W1.drew _ V.mb (Array.getElem?_eq_some_iff.1 hmb).1).trans hHeld.2.2.1,hHeld.2.2.2.trans ((zl W1.drew _))⟩
  refine vz 10 (by kernel_rfl) (QC (some 7) (.pointer (some ⟨W1.heap.size,0,none⟩)) (W1.drew.alloc (.cells #[.string ⟨#[]⟩,.int .i64 0,.slice none 0 0] 111)) rfl rfl (by rfl) (by kernel_rfl) ⟨hH2,?_⟩);simp only[Act.put,zh,zf,zg];have hM2:zm (W1.drew.alloc (.cells #[.string ⟨#[]⟩,.int .i64 0,.slice none 0 0] 111)) W1.heap.size 111 #[.string ⟨#[]⟩,.int .i64 0,.slice none 0 0]:=zm.new_at rfl;have hBel:Below W1.heap.size W1 ((W1.drew.alloc (.cells #[.string ⟨#[]⟩,.int .i64 0,.slice none 0 0] 111)).setRow W1.heap.size #[.string (bs m.word),.int .i64 (m.node:Nat),.slice Am m.bytes.length Cm]):=jd hH2.2.2.2 (Nat.le_refl _) _
  have hH3:((W1.drew.alloc (.cells #[.string ⟨#[]⟩,.int .i64 0,.slice none 0 0] 111)).setRow W1.heap.size #[.string (bs m.word),.int .i64 (m.node:Nat),.slice Am m.bytes.length Cm]).cell? ⟨cb,5,none⟩=some (.map (some V.mb))∧((W1.drew.alloc (.cells #[.string ⟨#[]⟩,.int .i64 0,.slice none 0 0] 111)).setRow W1.heap.size #[.string (bs m.word),.int .i64 (m.node:Nat),.slice Am m.bytes.length Cm]).cell? ⟨w.heap.size,1,none⟩=some (.string (bs n.s))∧((W1.drew.alloc (.cells #[.string ⟨#[]⟩,.int .i64 0,.slice none 0 0] 111)).setRow W1.heap.size #[.string (bs m.word),.int .i64 (m.node:Nat),.slice Am m.bytes.length Cm]).heap[V.mb]?=some (.map (j5 c.names us).toArray c.names.length)∧Below W1.heap.size W1 ((W1.drew.alloc (.cells #[.string ⟨#[]⟩,.int .i64 0,.slice none 0 0] 111)).setRow W1.heap.size #[.string (bs m.word),.int .i64 (m.node:Nat),.slice Am m.bytes.length Cm]):=⟨za hBel c5,za hBel nc1,(hBel.block V.mb (Array.getElem?_eq_some_iff.1 hmb).1).trans hmb,hBel⟩
  refine vz 11 (by kernel_rfl) (vg none ((W1.drew.alloc (.cells #[.string ⟨#[]⟩,.int .i64 0,.slice none 0 0] 111)).setRow W1.heap.size #[.string (bs m.word),.int .i64 (m.node:Nat),.slice Am m.bytes.length Cm]) rfl rfl (by rfl) (qP 111 _ _ rfl W1.heap.size rfl #[.string (bs m.word),.int .i64 (m.node:Nat),.slice Am m.bytes.length Cm] rfl 111 (by kernel_rfl) _ hM2 rfl (by kernel_rfl)) ⟨hH3,?_⟩);simp only[Act.put];refine zD 12 (some 8) (.bool true) rfl rfl (λ_ _=>rfl) hH3 ?_;simp only[Act.put,zh,zf,zg];have hM3:zm ((W1.drew.alloc (.cells #[.string ⟨#[]⟩,.int .i64 0,.slice none 0 0] 111)).setRow W1.heap.size #[.string (bs m.word),.int .i64 (m.node:Nat),.slice Am m.bytes.length Cm]) W1.heap.size 111 #[.string (bs m.word),.int .i64 (m.node:Nat),.slice Am m.bytes.length Cm]:=hM2.setRow _;refine wpAnyH_done (by kernel_rfl) ?_ _;generalize (W1.drew.alloc (.cells #[.string ⟨#[]⟩,.int .i64 0,.slice none 0 0] 111)).setRow W1.heap.size #[.string (bs m.word),.int .i64 (m.node:Nat),.slice Am m.bytes.length Cm]=W2 at hBel hM3 ⊢;have nc3b:=za hBel nc3
  go_wp2_with (first
   |((go_at_call 62)
     refine(qL 131 n.a W2).mono ?_;rintro e w3 ⟨rfl,hw3⟩;(obtain rfl:W2=w3:=hw3.symm)))
  have mc0:=hM3.cell 0;have hs2:QD W2 v ws:=hs.below (hb1.trans (hBel.mono hb1.size));refine wp_region_held_drew (S:=λwz=>wz.cell? ⟨W1.heap.size,0,none⟩=some (.string (bs m.word))∧wz.cell? ⟨w.heap.size,3,none⟩=some (.int .i64 n.a)∧QD wz v ws∧wz.heap=W2.heap∧Below W2.heap.size W2 wz) (by kernel_rfl) (⟨mc0,nc3b,hs2,rfl,(Below.refl _ W2).drew⟩) (λhHeld=>?_);refine zw 0 (some 23) (v) hHeld ?_;simp only[Act.put,zh,zf,zg];refine zw 1 (some 24) (.pointer (some ⟨W1.heap.size,0,none⟩)) hHeld ?_;simp only[Act.put,zh,zf,zg];refine zD 2 (some 25) (.string (bs m.word)) rfl rfl (λwz hz=>by obtain⟨z0,z1,z2,z3⟩:=hz;unfold execOp;go_simp) hHeld ?_;simp only[Act.put,zh,zf,zg];refine zw 4 (some 27) (.pointer (some ⟨w.heap.size,3,none⟩)) hHeld ?_;simp only[Act.put,zh,zf,zg];refine zD 5 (some 28) (.int .i64 n.a) rfl rfl (λwz hz=>by obtain⟨z0,z1,z2,z3⟩:=hz;unfold execOp;go_simp) hHeld ?_;simp only[Act.put,zh,zf,zg];refine jn 3 (some 26) 95 #[v,.string (bs m.word)] (by kernel_rfl) rfl rfl (by rfl) (by kernel_rfl) (Yt ws m.word W2.drew v (hs2.below (zr (Below.refl _ W2))) hl) ?_;rintro e w4 ⟨rfl,rfl⟩;refine .inl ⟨_,rfl,hHeld,?_⟩;simp only[Act.put,zh,zf,zg];cases hc:ws.any (λy=>m.word==y)
  ·refine jn 6 (some 29) 62 #[.bool false,.int .i64 133,.int .i64 n.a] (by kernel_rfl) rfl rfl (by rfl) (by kernel_rfl) (jA 133 n.a W2.drew) ?_
   rintro e w5 ⟨rfl,rfl⟩;refine .inr ⟨_,rfl,?_⟩;exact⟨rfl,zr (hb1.trans (hBel.mono hb1.size)),by rw[if_neg (by rw[hc];decide)];rfl⟩
  ·refine jn 6 (some 29) 62 #[.bool true,.int .i64 133,.int .i64 n.a] (by kernel_rfl) rfl rfl (by rfl) (by kernel_rfl) (qL 133 n.a W2.drew) ?_
   rintro e w5 ⟨rfl,rfl⟩;refine .inl ⟨_,rfl,hHeld,?_⟩;simp only[Act.put,zh,zf,zg];refine wpAnyH_done (by kernel_rfl) ?_ _
   have pm:=(hm1.below hBel hm1.lt)
   have p0:=pm.cell 0;have p1:=pm.cell 1;have p2:=pm.cell 2;have g0:=pm.free 0;have g1:=pm.free 1;have g2:=pm.free 2;have m0:=hM3.cell 0;have m1:=hM3.cell 1;have m2:=hM3.cell 2;have lpm:=pm.lt;have lm3:=hM3.lt
   go_wp2
   refine JR rfl rfl (pm.set3 _ _ _) rfl ?_;have hb3:Below w.heap.size w W2:=hb1.trans (hBel.mono hb1.size);have hb4:=zda (g:=w.heap.size+1) (zr hb3) (Nat.le_succ _) (.string (bs m.word)) (.int .i64 (m.node:Nat)) (.slice Am m.bytes.length Cm);refine⟨hb4,?_⟩;exact⟨Am,Cm,rfl,am,bm,hby.keep hb4.size (λk hk hn=>⟨hb4.block k hk,hn.1⟩)⟩
end
section
open Go.ChangeShapes Go.WideShapes Go.ChangeAt Go.RowKit Go.MapKept
def putObj(w:World)(r:Nat)(o:Obj):World:={ w with heap:=w.heap.setIfInBounds r o }
theorem YD{P:Program}{w:World}{r:Nat}{x:Option Nat}{y z:Nat}{u:Array Nat}(o':Obj)(h:w.heap[r]?=some (.mapIter x y u z)):(setObj r o').run P w= .ok () (putObj w r o'):=by
 simp only[setObj,Sem.run,h];rfl
theorem Gg(w:World):w.drewN 0=w:=rfl
theorem zba{P:Program}{w:World}(ty:TypeId){r bm since c0 clock:Nat}{seen:Array Nat}{es:Array MapEntry}(hr:w.heap[r]?=some (.mapIter (some bm) since seen c0))(hb:w.heap[bm]?=some (.map es clock))(hold:∀x ∈ es.toList,x.born<since)(hsc:since≤c0):
 ((leftOf es seen).size=0∧(Instr.next (.pointer (some ⟨r,0,none⟩)) false ty).run P w= .ok (.tuple #[.bool false]) w) ∨
 ∃e ∈ (leftOf es seen).toList,∃q,(Instr.next (.pointer (some ⟨r,0,none⟩)) false ty).run P w= .ok (.tuple #[.bool true,e.key,e.val]) (putObj (w.drewN q) r (.mapIter (some bm) since (seen.push e.born) clock)):=by
 have hl:∀x ∈ (leftOf es seen).toList,x.born<since:=by
  intro x hx;unfold leftOf at hx;simp only[Array.mem_toList_iff,Array.mem_filter]at hx;exact hold x (by simpa using hx.1)
 simp only[Instr.next,getObj,Sem.run_bind,Sem.run,hr,hb,Result.andThen,next_test_false seen es since c0 hold hsc,Bool.false_eq_true,if_false];rw[show Array.filter (λe=> !seen.contains e.born) es=leftOf es seen from rfl];generalize leftOf es seen=M at hl ⊢;have f1:Array.filter (λx=>decide (x.born<since)) M=M:=Array.filter_eq_self.2 λx hx=>by simpa using hl x (by simpa using hx)
 have f2:Array.filter (λx=>decide (x.born≥since)) M= #[]:=by
  rw[Array.filter_eq_empty_iff];intro x hx;have:=hl x (by simpa using hx);simp only[ge_iff_le,decide_eq_true_eq];omega
 simp only[f1,f2,Array.append_empty];rcases Nat.eq_zero_or_pos M.size with h0|h0
 ·refine .inl ⟨h0,?_⟩
  obtain rfl:M= #[]:=Array.eq_empty_of_size_eq_zero h0;simp[choose,Sem.run,Question.forced]
 ·refine .inr ?_
  have hne:M.isEmpty=false:=by
   cases h:M.isEmpty with
   |false=>rfl
   |true =>
    obtain rfl:M= #[]:=Array.isEmpty_iff.1 h;simp at h0
  have hch:∃(j q:Nat),j<M.size∧(choose (Question.mapNext M.size)).run P w= .ok j (w.drewN q):=by
   by_cases hf:M.size≤1
   ·exact⟨0,0,h0,by rw[Gg];simp[choose,Sem.run,Question.forced,hf]⟩
   ·exact⟨_,1,Nat.mod_lt _ h0,by
     simp only[choose,Sem.run,Question.forced,decide_eq_true_eq,hf,if_false,Question.cut]
     rfl⟩
  obtain⟨j,q,hj,hrun⟩:=hch;refine⟨M[j],by simp,q,?_⟩;have hr2:(w.drewN q).heap[r]?=some (.mapIter (some bm) since seen c0):=hr;simp only[hne,Bool.false_eq_true,if_false,Array.empty_append,Array.size_map,hrun,Array.getElem?_map,Array.getElem?_eq_getElem hj,Option.map_some,Sem.run_bind,YD _ hr2,Result.andThen];rfl
theorem df{P:Program}{w:World}{r bm since clock:Nat}{seen:Array Nat}{es:Array MapEntry}{e:MapEntry}(hr:w.heap[r]?=some (.mapIter (some bm) since (seen.push e.born) clock))(hb:w.heap[bm]?=some (.map es clock))(he:e ∈ es.toList)(hn:(es.toList.map (·.born)).Nodup):
 (Instr.entry (.pointer (some ⟨r,0,none⟩))).run P w= .ok (.tuple #[e.key,e.val]) w:=by
 have hf:es.find? (·.born==e.born)=some e:=by rw[←Array.find?_toList];exact find_born e es.toList hn he
 simp only[Instr.entry,getObj,Sem.run_bind,Sem.run,hr,hb,Result.andThen,Array.back?_push,bne_self_eq_false,Bool.false_eq_true,if_false,hf];rfl
end
section
open Go.ChangeShapes Go.WideShapes Go.ChangeAt Go.RowKit Go.MapKept
variable {E:Nat→Prop}
theorem J3{o:Oper}{a:Act}(it:Operand)(ho:o.op= .next it false)(ht:o.type=0){w w':World}{r:Nat}{v:Value}(hx:a.eval it= .pointer (some ⟨r,0,none⟩))(h:(Instr.next (.pointer (some ⟨r,0,none⟩)) false 0).run Tryz.prog w= .ok v w'):(execOp a.eval o).run Tryz.prog w= .ok (.value v) w':=by
 unfold execOp;simp only[ho,hx,ht];simp[h,Result.andThen]
theorem XM{o:Oper}{a:Act}(it:Operand)(ho:o.op= .entry it){w:World}{r bm since clock:Nat}{seen:Array Nat}{es:Array MapEntry}{e:MapEntry}(hx:a.eval it= .pointer (some ⟨r,0,none⟩))(hr:w.heap[r]?=some (.mapIter (some bm) since (seen.push e.born) clock))(hb:w.heap[bm]?=some (.map es clock))(he:e ∈ es.toList)(hn:(es.toList.map (·.born)).Nodup):(execOp a.eval o).run Tryz.prog w= .ok (.value (.tuple #[e.key,e.val])) w:=by
 unfold execOp;simp only[ho,hx];simp[df hr hb he hn,Result.andThen]
theorem XP{o:Oper}{a:Act}(x:Operand)(ho:o.op= .range 53 x){w:World}{bm clock:Nat}{es:Array MapEntry}(hx:a.eval x= .map (some bm))(hb:w.heap[bm]?=some (.map es clock)):(execOp a.eval o).run Tryz.prog w= .ok (.value (.pointer (some ⟨w.heap.size,0,none⟩))) (w.alloc (.mapIter (some bm) clock #[] clock)):=by
 unfold execOp;simp only[ho,hx];simp[run_range_map w 53 9 111 bm es clock Tryz.underlying53 hb,Result.andThen]
theorem dk{l:List Nat}{n:Nat}(hn:l.Nodup)(hb:∀i ∈ l,i<n):l.length≤n:=by
 have:=List.Nodup.length_le_of_subset hn (l₂:=List.range n) (λi hi=>List.mem_range.2 (hb i hi))
 simpa using this
theorem zbV{l:List Nat}{n:Nat}(hn:l.Nodup)(hb:∀i ∈ l,i<n)(ha:∀i,i<n→i ∈ l)(t:Nat→Bool):(l.filter t).length=((List.range n).filter t).length:=by
 have hp:l.Perm (List.range n):=(List.perm_ext_iff_of_nodup hn List.nodup_range).2 λi=>⟨λh=>List.mem_range.2 (hb i h),λh=>ha i (List.mem_range.1 h)⟩
 exact(hp.filter t).length_eq
theorem GC(ns:vJ)(ws:List (List UInt8)):jr ns ws=((List.range ns.length).filter λi=>ws.any (λy=>(ns[i]?.map (λx=>x.2.word)).getD []==y)).length:=by
 unfold jr
 induction ns with
 |nil=>rfl
 |cons x ns ih =>
  rw[List.length_cons,List.range_succ_eq_map,List.filter_cons,List.filter_cons,List.filter_map]
  have e:(List.filter ((λi=>ws.any λy=>((x::ns)[i]?.map (λx=>x.2.word)).getD []==y) ∘ Nat.succ) (List.range ns.length))=(List.range ns.length).filter λi=>ws.any (λy=>(ns[i]?.map (λx=>x.2.word)).getD []==y):=by
   apply List.filter_congr;intro i hi;simp
  rw[e];simp only[List.getElem?_cons_zero,Option.map_some,Option.getD_some]
  split
  ·simp[ih]
  ·simp[ih]
theorem ZO{w:World}{cb:Nat}{V:CV}{c:Ck}(h:qq E w cb V c)(ws:List (List UInt8))(v:Value)(hs:QD w v ws)(hl:ws.length≤100):Calls Tryz.prog 80 #[.pointer (some ⟨cb,0,none⟩),v] w λe w'=>e= .returned (.int .i64 (jr c.names ws:Nat))∧Below w.heap.size w w':=by
 obtain⟨us,e1,hmb,hin⟩:=h.nms;have c5:=h.has.cell 5;have lc:=h.has.lt;simp only[qH,qG,qI]at c5;have hfew:=h.few.2.1;rw[GC]
 obtain⟨t,ht⟩:∃t:Nat→Bool,t=λi=>ws.any (λy=>(c.names[i]?.map (λx=>x.2.word)).getD []==y):=⟨_,rfl⟩
 rw[←ht]
 obtain⟨n,hn⟩:∃n,n=c.names.length:=⟨_,rfl⟩
 rw[←hn]at hmb hfew ⊢;have hmlt:V.mb<w.heap.size:=(Array.getElem?_eq_some_iff.1 hmb).1;have hH:=λi (hi:i<c.names.length)=>Jw e1 i hi
 have hword:∀i (hi:i<c.names.length),t i=ws.any (λy=>c.names[i].2.word==y):=λi hi=>by rw[ht];simp[hi]
 have hold:∀x ∈ (j5 c.names us).toArray.toList,x.born<n:=λx hx=>by
  obtain⟨i,hi,rfl⟩:=VY e1 (by simpa using hx);rw[hn];exact hi
 have hnd:((j5 c.names us).toArray.toList.map (·.born)).Nodup:=by
  have :(j5 c.names us).toArray.toList.map (·.born)=List.range c.names.length:=by
   apply List.ext_getElem?;intro i;by_cases hi:i<c.names.length
   ·simp[hH i hi,hi]
   ·simp[Jq e1,hi]
  rw[this];exact List.nodup_range
 have HT:Hid (∀i (hi:i<c.names.length),t i=ws.any (λy=>c.names[i].2.word==y)):=hword;have HOLD:Hid (∀x ∈ (j5 c.names us).toArray.toList,x.born<n):=hold;have HND:Hid (((j5 c.names us).toArray.toList.map (·.born)).Nodup):=hnd;have HGET:Hid (∀i (hi:i<c.names.length),(j5 c.names us)[i]?=some { key:= .string (bs c.names[i].1),val:=Uc c.names[i].2 (us[i]'(by rw[e1];exact hi)),born:=i }):=hH
 obtain⟨W,hW⟩:∃W,W=w.alloc (.mapIter (some V.mb) n #[] n):=⟨_,rfl⟩
 have hWb:Below w.heap.size w W:=by rw[hW];exact zl w _
 have hWr:W.heap[w.heap.size]?=some (.mapIter (some V.mb) n #[] n):=by rw[hW];exact heap_alloc_new w _
 have HW:Hid (W=w.alloc (.mapIter (some V.mb) n #[] n)):=hW
 have HIN:Hid (∀i (hi:i<c.names.length),∃A C,us[i]'(by rw[e1];exact hi)=Value.slice A c.names[i].2.bytes.length C):=(λi hi=>by
  obtain⟨A,C,e,_⟩:=(hin i hi (by rw[e1];exact hi)).bytes
  exact⟨A,C,e⟩:∀i (hi:i<c.names.length),∃A C,us[i]'(by rw[e1];exact hi)=Value.slice A c.names[i].2.bytes.length C)
 have HN:Hid (n=c.names.length):=hn;clear ht hH hword hold hnd hin h hW hn;go_enter Tryz.func80,Tryz.ntmps80
 go_wp2_with (first
  |(refine zi 12 rfl ?_
    refine jP (some 12) (.pointer (some ⟨w.heap.size,0,none⟩)) W rfl (by rfl) (by rw[HW.out];exact XP _ rfl rfl hmb) ?_))
 go_loopw [5] (λz wr=>∃(seen:Array Nat) (k:Nat),z= .int .i64 (k:Nat)∧Below w.heap.size w wr∧wr.heap[w.heap.size]?=some (.mapIter (some V.mb) n seen n)∧Hid (seen.toList.Nodup∧(∀i ∈ seen.toList,i<n)∧k=(seen.toList.filter t).length)) (λ_ wz=>n-(wz.iterSeen w.heap.size).size)
 case atStart=>exact⟨#[],0,rfl,hWb,hWr,⟨by simp,by simp,rfl⟩⟩
 case round =>
  obtain⟨seen,k,rfl,hb,hr,HS⟩:=hrel;have hmb2:wr.heap[V.mb]?=some (.map (j5 c.names us).toArray n):=(hb.block V.mb hmlt).trans hmb
  have hkn:k≤n:=by
   rw[HS.out.2.2];exact Nat.le_trans (List.length_filter_le _ _) (dk HS.out.1 HS.out.2.1)
  have HI:Hid ((wr.iterSeen w.heap.size).size=seen.size):=by
   have :wr.iterSeen w.heap.size=seen:=by unfold World.iterSeen;rw[hr]
   rw[this];exact rfl
  rcases zba (P:=Tryz.prog) 0 hr hmb2 HOLD.out (Nat.le_refl n)with⟨h0,hnx⟩|⟨e,he,q,hnx⟩
  ·have hall:k=((List.range n).filter t).length:=by
    rw[HS.out.2.2];refine zbV HS.out.1 HS.out.2.1 (λi hi=>?_) t;cases hc:seen.contains i with
    |true=>simpa using hc
    |false =>
     have hg:=HGET.out i (by rw[←HN.out];exact hi)
     have hm:({ key:= .string (bs c.names[i].1),val:=Uc c.names[i].2 (us[i]'(by rw[e1,←HN.out];exact hi)),born:=i }:MapEntry) ∈ leftOf (j5 c.names us).toArray seen:=by
      unfold leftOf;rw[Array.mem_filter];exact⟨by simpa using List.mem_of_getElem? hg,by simpa using hc⟩
     obtain⟨j,hj,_⟩:=Array.mem_iff_getElem.1 hm;omega
   have HA:Hid (k=((List.range n).filter t).length):=hall;clear hall HS
   go_wp2_with (first
    |(refine zi 13 rfl ?_
      refine zd (some 13) (.tuple #[.bool false]) rfl (by rfl) (J3 _ rfl rfl rfl hnx) ?_))
   go_ret
   exact⟨by rw[←HA.out];rfl,hb⟩
  ·have hmem:e ∈ (j5 c.names us).toArray.toList∧seen.contains e.born=false:=by
    unfold leftOf at he;simp only[Array.mem_toList_iff,Array.mem_filter]at he;exact⟨by simpa using he.1,by simpa using he.2⟩
   obtain⟨i,hi,hei⟩:=VY e1 (by simpa using hmem.1);obtain⟨Au,Cu,hu⟩:=HIN.out i hi;have hin':i<n:=by rw[HN.out];exact hi
   have hti:=HT.out i hi;have hval:e.val= .agg #[.string (bs c.names[i].2.word),.int .i64 (c.names[i].2.node:Nat),.slice Au c.names[i].2.bytes.length Cu]:=by rw[hei];show Uc _ _=_;rw[hu];rfl
   have hborn:e.born=i:=by rw[hei]
   obtain⟨W1,hW1⟩:∃W1,W1=putObj (wr.drewN q) w.heap.size (.mapIter (some V.mb) n (seen.push e.born) n):=⟨_,rfl⟩
   have hrl:w.heap.size<wr.heap.size:=(Array.getElem?_eq_some_iff.1 hr).1;have hW1r:W1.heap[w.heap.size]?=some (.mapIter (some V.mb) n (seen.push e.born) n):=by rw[hW1];unfold putObj;simp[hrl]
   have hW1b:Below w.heap.size w W1:=by
    rw[hW1];exact⟨hb.os,hb.tape,hb.output,by unfold putObj;simpa using hb.size,λk hk=>by unfold putObj;simp only[Array.getElem?_setIfInBounds];rw[if_neg (by omega)];exact hb.block k hk⟩
   have hW1s:W1.heap.size=wr.heap.size:=by rw[hW1];unfold putObj;simp
   have hmb3:W1.heap[V.mb]?=some (.map (j5 c.names us).toArray n):=(hW1b.block V.mb hmlt).trans hmb;have hen:=λ(o:Oper) (a:Act) (it:Operand) ho hx=>XM (o:=o) (a:=a) it ho hx hW1r hmb3 hmem.1 HND.out
   rw[←hW1]at hnx;rw[hval]at hnx hen;have HNX:Hid ((Instr.next (.pointer (some ⟨w.heap.size,0,none⟩)) false 0).run Tryz.prog wr= .ok (.tuple #[.bool true,e.key,.agg #[.string (bs c.names[i].2.word),.int .i64 (c.names[i].2.node:Nat),.slice Au c.names[i].2.bytes.length Cu]]) W1):=hnx;have HEN:Hid (∀(o:Oper) (a:Act) (it:Operand),o.op= .entry it→a.eval it= .pointer (some ⟨w.heap.size,0,none⟩)→(execOp a.eval o).run Tryz.prog W1= .ok (.value (.tuple #[e.key,.agg #[.string (bs c.names[i].2.word),.int .i64 (c.names[i].2.node:Nat),.slice Au c.names[i].2.bytes.length Cu]])) W1):=hen
   have HS2:Hid ((seen.push i).toList.Nodup∧(∀j ∈ (seen.push i).toList,j<n)∧(if t i then k+1 else k)=((seen.push i).toList.filter t).length):=by
    have hnc:i ∉ seen.toList:=by
     have:=hmem.2;rw[hborn]at this
     simpa using this
    refine⟨?_,?_,?_⟩
    ·rw[Array.toList_push,List.nodup_append]
     refine⟨HS.out.1,by simp,λa ha b hb=>?_⟩;rw[List.mem_singleton]at hb;rintro rfl;rw[hb]at ha;exact hnc ha
    ·intro j hj
     rw[Array.toList_push,List.mem_append,List.mem_singleton]at hj;rcases hj with hj|rfl
     ·exact HS.out.2.1 j hj
     ·exact hin'
    ·rw[Array.toList_push,List.filter_append,List.length_append,←HS.out.2.2]
     by_cases htt:t i=true
     ·rw[if_pos htt];simp[htt]
     ·rw[if_neg htt];simp[htt]
   have hsz:seen.size<n:=by
    have:=dk HS2.out.1 HS2.out.2.1;simp at this;omega
   rw[hborn]at hW1r;have hkx:(k:Int)≤100000:=by omega
   generalize c.names[i].2.word=wd at *;generalize ((c.names[i].2.node:Nat):Int)=nd at *;generalize c.names[i].2.bytes.length=bl at *;generalize e.key=ek at *;clear hnx hen HS hval hu he hmem hei hborn hW1 HND HOLD HGET HT HIN hr hmb2
   obtain⟨W2,hW2⟩:∃W2,W2=W1.alloc (.cells #[.string (bs wd),.int .i64 nd,.slice Au bl Cu] 111):=⟨_,rfl⟩
   have hcn:=Yt ws wd W2 v (hs.below (by rw[hW2];exact hW1b.alloc (by omega) _)) hl;have hr2:W2.heap[w.heap.size]?=some (.mapIter (some V.mb) n (seen.push i) n):=by rw[hW2];exact(Below.heap_alloc W1 _ _ (by omega)).trans hW1r
   have hb2:Below w.heap.size w W2:=by rw[hW2];exact hW1b.alloc (by omega) _
   have HI2:Hid ((W2.iterSeen w.heap.size).size=seen.size+1):=by
    have :W2.iterSeen w.heap.size=seen.push i:=by unfold World.iterSeen;rw[hr2]
    rw[this];simp;exact trivial
   rw[←hti]at hcn;rw[hW2]at hcn;have HW2:Hid (W2=W1.alloc (.cells #[.string (bs wd),.int .i64 nd,.slice Au bl Cu] 111)):=hW2;clear hW2 hti;cases htt:t i
   all_goals
    rw[htt]at hcn;have HS3:=HS2.out;rw[htt]at HS3;have HS4:Hid _:=HS3;clear HS3 HS2
    go_wp2_with (first
     |(refine zi 13 rfl ?_
       refine jP (some 13) _ W1 rfl (by rfl) (J3 _ rfl rfl rfl HNX.out) ?_)
     |(refine zi 15 rfl ?_
       refine zd (some 15) _ rfl (by rfl) (HEN.out _ _ _ rfl rfl) ?_)
     |((go_at_call 95)
       refine hcn.mono ?_;rintro e w' ⟨rfl,hw'⟩;(obtain rfl:_=w':=hw'.symm)))
    rw[←HW2.out]
    go_roundw
    case rel=>exact⟨seen.push i,_,by go_num,hb2,hr2,HS4⟩
    case measure=>rw[HI2.out,HI.out];omega
end
section
open Go.ChangeShapes Go.WideShapes Go.ChangeAt Go.RowKit Go.MapKept
variable {E:Nat→Prop}
theorem Z5{w:World}(l:List (List UInt8))(cs:Array Value)(h:(l.map λx=>Value.string (bs x)).toArray=cs):QD (w.alloc (.cells cs 9)) (.slice (some ⟨w.heap.size,0,none⟩) l.length l.length) l:=by
 subst h;exact .inr ⟨w.heap.size,rfl,zm.new _ _ _⟩
theorem UE{w:World}{cb:Nat}{V:CV}{c:Ck}(h:qq E w cb V c):Calls Tryz.prog 63 #[.pointer (some ⟨cb,0,none⟩),.string (bs zn)] w λe w'=>e= .returned (.bool (full c.names zn))∧Below w.heap.size w w':=by
 have ha:=ZO (h.alloc (.cells #[.string ⟨#[100,101,118,105,99,101]⟩,.string ⟨#[106,111,117,114,110,97,108]⟩] 9)) [zn,zq] _ (Z5 [zn,zq] #[.string ⟨#[100,101,118,105,99,101]⟩,.string ⟨#[106,111,117,114,110,97,108]⟩] rfl) (by decide);rw[show full c.names zn=(jr c.names [zn,zq]==8)from rfl];generalize jr c.names [zn,zq]=m at ha ⊢;rw[show bs zn=⟨#[100,101,118,105,99,101]⟩from rfl]
 have hq:(((m:Nat):Int)==8)=(m==8):=by
  rw[Bool.eq_iff_iff];simp only[beq_iff_eq];omega
 have HQ:Hid ((((m:Nat):Int)==8)=(m==8)):=hq;clear hq;go_enter Tryz.func63,Tryz.ntmps63
 go_wp2_with (first
  |((go_at_call 80)
    refine ha.mono ?_;(rintro e w1 ⟨rfl,hb⟩)))
 go_ret
 refine⟨?_,(zl w _).trans (hb.mono (by simp))⟩
 first
  |rfl
  |(rw[←HQ.out];rfl)
  |(congr 1)
theorem XH{w:World}{cb:Nat}{V:CV}{c:Ck}(h:qq E w cb V c):Calls Tryz.prog 63 #[.pointer (some ⟨cb,0,none⟩),.string (bs zq)] w λe w'=>e= .returned (.bool (full c.names zq))∧Below w.heap.size w w':=by
 have ha:=ZO (h.alloc (.cells #[.string ⟨#[100,101,118,105,99,101]⟩,.string ⟨#[106,111,117,114,110,97,108]⟩] 9)) [zn,zq] _ (Z5 [zn,zq] #[.string ⟨#[100,101,118,105,99,101]⟩,.string ⟨#[106,111,117,114,110,97,108]⟩] rfl) (by decide);rw[show full c.names zq=(jr c.names [zn,zq]==8)from rfl];generalize jr c.names [zn,zq]=m at ha ⊢;rw[show bs zq=⟨#[106,111,117,114,110,97,108]⟩from rfl]
 have hq:(((m:Nat):Int)==8)=(m==8):=by
  rw[Bool.eq_iff_iff];simp only[beq_iff_eq];omega
 have HQ:Hid ((((m:Nat):Int)==8)=(m==8)):=hq;clear hq;go_enter Tryz.func63,Tryz.ntmps63
 go_wp2_with (first
  |((go_at_call 80)
    refine ha.mono ?_;(rintro e w1 ⟨rfl,hb⟩)))
 go_ret
 refine⟨?_,(zl w _).trans (hb.mono (by simp))⟩
 first
  |rfl
  |(rw[←HQ.out];rfl)
  |(congr 1)
theorem dP{w:World}{cb:Nat}{V:CV}{c:Ck}(h:qq E w cb V c):Calls Tryz.prog 63 #[.pointer (some ⟨cb,0,none⟩),.string (bs zM)] w λe w'=>e= .returned (.bool (full c.names zM))∧Below w.heap.size w w':=by
 have ha:=ZO (h.alloc (.cells #[.string ⟨#[107,101,121]⟩,.string ⟨#[114,111,111,116]⟩] 9)) [zM,zN] _ (Z5 [zM,zN] #[.string ⟨#[107,101,121]⟩,.string ⟨#[114,111,111,116]⟩] rfl) (by decide);rw[show full c.names zM=(jr c.names [zM,zN]==8)from rfl];generalize jr c.names [zM,zN]=m at ha ⊢;rw[show bs zM=⟨#[107,101,121]⟩from rfl]
 have hq:(((m:Nat):Int)==8)=(m==8):=by
  rw[Bool.eq_iff_iff];simp only[beq_iff_eq];omega
 have HQ:Hid ((((m:Nat):Int)==8)=(m==8)):=hq;clear hq;go_enter Tryz.func63,Tryz.ntmps63
 go_wp2_with (first
  |((go_at_call 80)
    refine ha.mono ?_;(rintro e w1 ⟨rfl,hb⟩)))
 go_ret
 refine⟨?_,(zl w _).trans (hb.mono (by simp))⟩
 first
  |rfl
  |(rw[←HQ.out];rfl)
  |(congr 1)
theorem Fe{w:World}{cb:Nat}{V:CV}{c:Ck}(h:qq E w cb V c):Calls Tryz.prog 63 #[.pointer (some ⟨cb,0,none⟩),.string (bs zN)] w λe w'=>e= .returned (.bool (full c.names zN))∧Below w.heap.size w w':=by
 have ha:=ZO (h.alloc (.cells #[.string ⟨#[107,101,121]⟩,.string ⟨#[114,111,111,116]⟩] 9)) [zM,zN] _ (Z5 [zM,zN] #[.string ⟨#[107,101,121]⟩,.string ⟨#[114,111,111,116]⟩] rfl) (by decide);rw[show full c.names zN=(jr c.names [zM,zN]==8)from rfl];generalize jr c.names [zM,zN]=m at ha ⊢;rw[show bs zN=⟨#[114,111,111,116]⟩from rfl]
 have hq:(((m:Nat):Int)==8)=(m==8):=by
  rw[Bool.eq_iff_iff];simp only[beq_iff_eq];omega
 have HQ:Hid ((((m:Nat):Int)==8)=(m==8)):=hq;clear hq;go_enter Tryz.func63,Tryz.ntmps63
 go_wp2_with (first
  |((go_at_call 80)
    refine ha.mono ?_;(rintro e w1 ⟨rfl,hb⟩)))
 go_ret
 refine⟨?_,(zl w _).trans (hb.mono (by simp))⟩
 first
  |rfl
  |(rw[←HQ.out];rfl)
  |(congr 1)
theorem Uh{w:World}{cb:Nat}{V:CV}{c:Ck}(h:qq E w cb V c):Calls Tryz.prog 63 #[.pointer (some ⟨cb,0,none⟩),.string (bs zB)] w λe w'=>e= .returned (.bool (full c.names zB))∧Below w.heap.size w w':=by
 have ha:=ZO (h.alloc (.cells #[.string ⟨#[118,111,108,117,109,101]⟩] 9)) [zB] _ (Z5 [zB] #[.string ⟨#[118,111,108,117,109,101]⟩] rfl) (by decide);rw[show full c.names zB=(jr c.names [zB]==16)from rfl];generalize jr c.names [zB]=m at ha ⊢;rw[show bs zB=⟨#[118,111,108,117,109,101]⟩from rfl]
 have hq:(((m:Nat):Int)==16)=(m==16):=by
  rw[Bool.eq_iff_iff];simp only[beq_iff_eq];omega
 have HQ:Hid ((((m:Nat):Int)==16)=(m==16)):=hq;clear hq;go_enter Tryz.func63,Tryz.ntmps63
 go_wp2_with (first
  |((go_at_call 80)
    refine ha.mono ?_;(rintro e w1 ⟨rfl,hb⟩)))
 go_ret
 refine⟨?_,(zl w _).trans (hb.mono (by simp))⟩
 first
  |rfl
  |(rw[←HQ.out];rfl)
  |(congr 1)
theorem Hm{w:World}{cb:Nat}{V:CV}{c:Ck}(h:qq E w cb V c)(op:List UInt8)(ho:op=zn∨op=zq∨op=zM∨op=zN∨op=zB):Calls Tryz.prog 63 #[.pointer (some ⟨cb,0,none⟩),.string (bs op)] w λe w'=>e= .returned (.bool (full c.names op))∧Below w.heap.size w w':=by
 rcases ho with rfl|rfl|rfl|rfl|rfl
 ·exact UE h
 ·exact XH h
 ·exact dP h
 ·exact Fe h
 ·exact Uh h
end
section
open Go.ChangeShapes Go.WideShapes Go.ChangeAt Go.RowKit Go.MapKept
structure VO (t e size bytes:Nat):Prop where
 ut:Tryz.prog.underlying t=some (.slice e)
 info:∃z:Value,(Tryz.prog.info? e).map (λi=>(i.zero,i.size,i.bytes))=some (some z,size,bytes)∧z.cells.size=size
 pos:0<size
 small:bytes≤1000
theorem zX{t e size bytes:Nat}(K:VO t e size bytes){ty:TypeId}(w:World)(base n:Nat)(v:Value)(xs:List Value)(hrow:w.ownsRow base e size v n xs)(hbase:base≤w.heap.size)(hlen:n≤1000000)(news:List Value)(hl:news.length=size)(h1:∀u ∈ news,u.oneCell'=true)(G:Nat)(hG:zm w G e news.toArray):
 ∃A' C' w',(Builtin.append_ #[t,t] ty #[v,.slice (some ⟨G,0,none⟩) 1 1]).run Tryz.prog w= .ok (.slice A' (n+1) C') w'∧w'.ownsRow base e size (.slice A' (n+1) C') (n+1) (xs++news)∧w.grownBy w' v.ownBlock∧((Value.slice A' (n+1) C').ownBlock=v.ownBlock∨(Value.slice A' (n+1) C').ownBlock=some w.heap.size):=by
 obtain⟨z,hz,hzs⟩:=K.info;obtain⟨i0,hi,hz0,hz1,hz2⟩:=info_parts hz;have hp:=K.pos
 have hnews:∀j u,news[j]?=some u→w.cell? ((⟨G,0,none⟩:Addr).add j)=some u:=by
  intro j u hj;have:=hG.cell j;rw[show(⟨G,0,none⟩:Addr).add j=⟨G,j,none⟩ by simp[Addr.add];omega];rw[this]
  simpa using hj
 have hsm:(n+1)*bytes≤140737488355328:=by
  have :(n+1)*bytes≤1000001*1000:=Nat.mul_le_mul (by omega) K.small;omega
 obtain⟨v',w',hr,h2,h3,h4⟩:=run_append_own (P:=Tryz.prog) w base t ty e i0 z size bytes K.ut hi hz0 hz1 hz2 hzs hp v n xs hrow ⟨G,0,none⟩ 1 1 news (by omega) hnews h1 (by unfold maxLen;omega) hsm hbase;have hwh:=Jm (P:=Tryz.prog) K.ut hi hz0 hz1 hp hrow (ad:=⟨G,0,none⟩) (m:=1) (c:=1) (news:=news) (by omega) hnews h1 (by unfold maxLen;omega) (by rw[hz2];exact hsm) (by decide) hr
 obtain⟨A',C',e'⟩:∃A' C',v'= .slice A' (n+1) C':=by
  rcases h2.2 with⟨_,h0⟩|⟨g,cap,cur,rfl,_⟩
  ·omega
  ·exact⟨_,_,rfl⟩
 subst e';exact⟨A',C',w',hr,h2,h3,hwh⟩
theorem zW{t:TypeId}{o:Oper}{a:Act}(s x:Operand)(ho:o.op= .call { callee:= .builtin .append,args:=#[s,x],argTypes:=#[t,t] }){w w':World}{v y v':Value}(hs:a.eval s=v)(hx:a.eval x=y)(hr:(Builtin.append_ #[t,t] o.type #[v,y]).run Tryz.prog w= .ok v' w'):(execOp a.eval o).run Tryz.prog w= .ok (.value v') w':=by
 unfold execOp;simp only[ho,resolve,invoke,builtin,Sem.run_bind,Sem.run_pure,Result.andThen_ok,List.map_toArray,List.map_cons,List.map_nil,hs,hx,hr]
theorem Dp:VO 40 42 3 24:=⟨Tryz.underlying40,⟨.agg #[.int .i64 0,.int .i64 0,.int .i64 0],by kernel_rfl,rfl⟩,by decide,by decide⟩
theorem J2:VO 29 3 1 8:=⟨Tryz.underlying29,⟨.int .i64 0,by kernel_rfl,rfl⟩,by decide,by decide⟩
theorem XU:VO 54 4 1 1:=⟨Tryz.underlying54,⟨.bool false,by kernel_rfl,rfl⟩,by decide,by decide⟩
theorem Zp:VO 30 65 8 112:=⟨Tryz.underlying30,⟨.agg #[.int .i64 0,.int .i64 0,.slice none 0 0,.int .i64 0,.int .i64 0,.int .i64 0,.slice none 0 0,.slice none 0 0],by kernel_rfl,rfl⟩,by decide,by decide⟩
theorem zy{w w':World}{v:Value}{g t:Nat}{cs:Array Value}(h:zm w g t cs)(hg:w.grownBy w' v.ownBlock)(hn:v.ownBlock≠some g):zm w' g t cs:=(hg.block g h.lt (λe=>hn e.symm)).trans h
def vB(w:World)(B:Nat)(A:Option Addr)(ps:List Pt):Prop:=∀i (h:i<ps.length),∃g off u,A=some ⟨g,off,none⟩∧g<B∧g<w.heap.size∧(∀j,j<8→w.cell? ⟨g,off+i*8+j,none⟩=(Q9 ps[i] u)[j]?)∧xH w (λg=>g<B) ps[i] u
theorem vB.keep{w w':World}{B:Nat}{A:Option Addr}{ps:List Pt}(h:vB w B A ps)(hb:Below B w w'):vB w' B A ps:=by
 intro i hi;obtain⟨g,off,u,e,h1,h2,h3,h4⟩:=h i hi;exact⟨g,off,u,e,h1,Nat.lt_of_lt_of_le h2 hb.size,λj hj=>(hb.cell (p:=⟨g,off+i*8+j,none⟩) h1).trans (h3 j hj),h4.keep hb.size λk hk hB=>⟨hb.block k hB,hB⟩⟩
def FF(l:List R3):List Value:=l.flatMap λr=> [.int .i64 r.d,.int .i64 r.f,.int .i64 r.c]
structure vX (w:World) (fb:Nat) (A:Option Addr) (C:Nat) (ps:List Pt) (v:Value) (out:List R3):Prop where
 has:zm w fb 72 #[.slice A ps.length C,v]
 row:w.ownsRow (fb+1) 42 3 v out.length (FF out)
 pts:vB w fb A ps
 cap:ps.length≤C∧C≤maxLen
 few:out.length≤257
structure yN (fb:Nat) (v:Value) (w:World) (v':Value) (w':World):Prop where
 only :vZ (λk=>k=fb∨v.ownBlock=some k) w w'
 new:∀k,v'.ownBlock=some k→v.ownBlock=some k∨w.heap.size≤k
theorem yN.refl(fb:Nat)(v:Value)(w:World):yN fb v w v w:=⟨.refl _ _,λ_ h=> .inl h⟩
theorem yN.trans{fb:Nat}{v v1 v2:Value}{w w1 w2:World}(h:yN fb v w v1 w1)(k:yN fb v1 w1 v2 w2):yN fb v w v2 w2:=by
 refine⟨⟨k.only.os.trans h.only.os,k.only.tape.trans h.only.tape,k.only.output.trans h.only.output,Nat.le_trans h.only.size k.only.size,λi hi hn=>?_⟩,λi hi=>?_⟩
 ·refine(k.only.block i (Nat.lt_of_lt_of_le hi h.only.size) (λe=>?_)).trans (h.only.block i hi hn)
  rcases e with e|e
  ·exact hn (.inl e)
  ·rcases h.new i e with e'|e'
   ·exact hn (.inr e')
   ·omega
 ·rcases k.new i hi with e|e
  ·exact h.new i e
  ·exact .inr (Nat.le_trans h.only.size e)
theorem vX.low{w:World}{fb:Nat}{A:Option Addr}{C:Nat}{ps:List Pt}{v:Value}{out:List R3}(h:vX w fb A C ps v out){k:Nat}(hk:k=fb∨v.ownBlock=some k):fb≤k∧k<w.heap.size:=by
 rcases hk with rfl|e
 ·exact⟨Nat.le_refl _,h.has.lt⟩
 ·have:=qR h.row e
  omega
theorem vX.keep{w w':World}{fb:Nat}{A:Option Addr}{C:Nat}{ps:List Pt}{v:Value}{out:List R3}(h:vX w fb A C ps v out)(hb:Below w.heap.size w w'):vX w' fb A C ps v out:=
 ⟨h.has.below hb h.has.lt,zI h.row (λg o e ho=>(hb.block g (Array.getElem?_eq_some_iff.1 ho).1).trans ho),h.pts.keep (hb.mono (Nat.le_of_lt h.has.lt)),h.cap,h.few⟩
theorem yN.below{fb:Nat}{v v':Value}{w w':World}(h:yN fb v w v' w')(hl:∀k,v.ownBlock=some k→fb≤k)(hfb:fb≤w.heap.size):Below fb w w':=h.only.below hfb λk hk=>by
 rcases hk with rfl|e
 ·exact Nat.le_refl _
 ·exact hl k e
theorem yN.of{fb:Nat}{v:Value}{w w':World}(h:Below w.heap.size w w'):yN fb v w v w':=⟨.of h,λ_ e=> .inl e⟩
theorem GV(l:List R3)(r:R3):FF (l++ [r])=FF l++ [.int .i64 r.d,.int .i64 r.f,.int .i64 r.c]:=by simp[FF]
theorem vX.put{W1 w6:World}{fb:Nat}{A:Option Addr}{C:Nat}{ps:List Pt}{v:Value}{out:List R3}(h:vX W1 fb A C ps v out){r:R3}{A6:Option Addr}{C6:Nat}(ho:¬256<out.length)(hF6:zm w6 fb 72 #[.slice A ps.length C,v])(hrow:w6.ownsRow (fb+1) 42 3 (.slice A6 (out.length+1) C6) (out.length+1) (FF out++ [.int .i64 r.d,.int .i64 r.f,.int .i64 r.c]))(hO:vZ (λk=>k=fb∨v.ownBlock=some k) W1 w6):vX (w6.setCell ⟨fb,1,none⟩ (.slice A6 (out.length+1) C6)) fb A C ps (.slice A6 (out.length+1) C6) (out++ [r]):=by
 have hb:Below fb W1 w6:=hO.below (Nat.le_of_lt h.has.lt) λk hk=>(h.low hk).1
 refine⟨hF6.putP 1 _,?_,(h.pts.keep hb).keep ((Below.refl fb w6).setCell (p:=⟨fb,1,none⟩) (Nat.le_refl _) _),h.cap,by simp;omega⟩;rw[GV,List.length_append,List.length_singleton];exact zI hrow (λg o e ho=>(Below.heap_setCell w6 ⟨fb,1,none⟩ _ g (by have:=(qR hrow e).2;show g≠fb;omega)).trans ho)
structure Jv (ps:List Pt):Prop where
 kids:∀i,i<ps.length→∀k ∈ (zx ps i).kids,k<i
 size:∀i,i<ps.length→sz ps i≤8192
 first:∀i,i<ps.length→(zx ps i).first≤1000000000
 snap:∀i,i<ps.length→(zx ps i).kind=5→(zx ps i).kids.length=2
 one:∀i,i<ps.length→((zx ps i).kind=7∨(zx ps i).kind=8)→1≤(zx ps i).kids.length
 few:∀i,i<ps.length→(zx ps i).kids.length≤1000
 kind:∀i,i<ps.length→1≤(zx ps i).kind∧(zx ps i).kind≤8
theorem vQ{ps:List Pt}{i:Nat}(h:i<ps.length):zx ps i=ps[i]:=by
 unfold zx;rw[List.getD_eq_getElem?_getD,List.getElem?_eq_getElem h];rfl
theorem zE{o:Oper}{a:Act}(x i:Operand)(ho:o.op= .indexAddr 30 x i)(g off k n cap:Nat)(hx:a.eval x= .slice (some ⟨g,off,none⟩) n cap)(hi:a.eval i= .int .i64 (k:Nat))(hk:k<n)(w:World):(execOp a.eval o).run Tryz.prog w= .ok (.value (.pointer (some ⟨g,off+k*8,none⟩))) w:=by
 unfold execOp;obtain⟨i0,hq,hz0,hz,hz2⟩:=info_parts (show(Tryz.prog.info? 65).map (λi=>(i.zero,i.size,i.bytes))=some (some (.agg #[.int .i64 0,.int .i64 0,.slice none 0 0,.int .i64 0,.int .i64 0,.int .i64 0,.slice none 0 0,.slice none 0 0]),8,112) by kernel_rfl);simp only[ho,hx,hi];simp[Instr.indexAt,Instr.sureAddr,run_underlying Tryz.underlying30,asIntOf,sizeOf,typeInfo,hq,hz,Addr.add_mid,go_sem];intro h;omega
theorem Jh{w:World}{fb:Nat}{A:Option Addr}{C:Nat}{ps:List Pt}{v:Value}{out:List R3}(h:vX w fb A C ps v out)(hwf:Jv ps)(p f c:Int)(hp:qo p)(hf:qo f)(hc:qo c):Calls Tryz.prog 45 #[.pointer (some ⟨fb,0,none⟩),.int .i64 p,.int .i64 f,.int .i64 c] w λe w'=>e= .returned (.bool (jF ps p f c))∧Below w.heap.size w w':=by
 have c0:=h.has.cell 0;have lc:=h.has.lt;simp only[List.getElem?_toArray,List.getElem?_cons_zero]at c0;have hcap:ps.length≤C∧C≤9223372036854775807:=h.cap;by_cases h1:p<0
 ·have e:jF ps p f c=false:=by unfold jF;rw[decide_eq_false_iff_not];omega
  rw[e];have hd:decide (p<0)=true:=decide_eq_true h1;clear h e;go_enter Tryz.func45,Tryz.ntmps45
  go_wp2
  go_ret
  exact⟨rfl,Below.refl _ _⟩
 ·obtain⟨k,rfl⟩:∃k:Nat,p=(k:Nat):=⟨p.toNat,by omega⟩
  by_cases h2:k<ps.length
  ·obtain⟨g,off,u,rfl,hg0,hg,hcell,hpi⟩:=h.pts k h2
   have hsz:=hwf.size k h2;have hs1:=hcell 1 (by decide);have hpt:=vQ h2;have hse:sz ps k=ps[k].size:=by unfold sz;rw[hpt]
   simp only[Q9,List.getElem?_toArray,List.getElem?_cons_zero,List.getElem?_cons_succ]at hs1;rw[←hse]at hs1
   have e:jF ps (k:Nat) f c=(decide (0≤f)&&decide (0<c)&&decide (f≤(sz ps k:Int)-c)):=by
    unfold jF;rw[Bool.eq_iff_iff];simp only[decide_eq_true_eq,Bool.and_eq_true,Int.toNat_natCast];omega
   rw[e];generalize sz ps k=S at *;clear h hcell hpt hse e hwf hpi;generalize ps.length=L at *;have hk1:¬((k:Nat):Int)<0:=by omega
   have hk2:(k:Int)<(L:Int):=by omega
   obtain⟨hc1,hc2⟩:=hc;obtain⟨hf1,hf2⟩:=hf;by_cases h3:0≤f
   ·by_cases h4:0<c
    ·have hx1: -9223372036854775808≤(S:Int)-c:=by omega
     have hx2:(S:Int)-c≤9223372036854775807:=by omega
     have hd1:decide (0≤f)=true:=decide_eq_true h3;have hd2:decide (0<c)=true:=decide_eq_true h4;rw[hd1,hd2];go_enter Tryz.func45,Tryz.ntmps45
     go_wp2
     go_ret
     exact⟨rfl,Below.refl _ _⟩
    ·have hd1:decide (0≤f)=true:=decide_eq_true h3
     have hd2:decide (0<c)=false:=decide_eq_false h4;rw[hd1,hd2];go_enter Tryz.func45,Tryz.ntmps45
     go_wp2
     go_ret
     exact⟨rfl,Below.refl _ _⟩
   ·have hd1:decide (0≤f)=false:=decide_eq_false h3
    rw[hd1];go_enter Tryz.func45,Tryz.ntmps45
    go_wp2
    go_ret
    exact⟨rfl,Below.refl _ _⟩
  ·have e:jF ps (k:Nat) f c=false:=by unfold jF;rw[decide_eq_false_iff_not];omega
   rw[e];clear h e hwf;generalize ps.length=L at *;have hk1:¬((k:Nat):Int)<0:=by omega
   have hk2:¬(k:Int)<(L:Int):=by omega
   go_enter Tryz.func45,Tryz.ntmps45
   go_wp2
   go_ret
   exact⟨rfl,Below.refl _ _⟩
def vY(w:World)(fb:Nat)(A:Option Addr)(C:Nat)(ps:List Pt)(v:Value)(out':List R3)(e:Ending)(w':World):Prop:=∃v',e= .returned (.tuple #[])∧vX w' fb A C ps v' out'∧yN fb v w v' w'
theorem jw{w:World}{fb:Nat}{A:Option Addr}{ps:List Pt}(h:vB w fb A ps){k:Nat}(hk:k<ps.length):∃g off Ak Ck A2 n2 C2 A3 n3 C3,A=some ⟨g,off,none⟩∧g<fb∧g<w.heap.size∧ZS w (λg=>g<fb) Ak (zx ps k).kids∧(zx ps k).kids.length≤Ck∧Ck≤maxLen∧∀j,j<8→w.cell? ⟨g,off+k*8+j,none⟩=(#[.int .i64 ((zx ps k).kind:Nat),.int .i64 ((zx ps k).size:Nat),.slice Ak (zx ps k).kids.length Ck,.int .i64 ((zx ps k).dev:Nat),.int .i64 ((zx ps k).first:Nat),.int .i64 ((zx ps k).chunk:Nat),.slice A2 n2 C2,.slice A3 n3 C3]:Array Value)[j]?:=by
 obtain⟨g,off,⟨u1,u2,u3⟩,e,h1,h2,h3,⟨⟨A1,C1,e1,a1,b1,i1⟩,⟨A2,C2,e2,_⟩,⟨A3,C3,e3,_⟩⟩⟩:=h k hk;rw[vQ hk];simp only at e1 e2 e3;subst e1 e2 e3;exact⟨g,off,A1,C1,A2,_,C2,A3,_,C3,e,h1,h2,i1,a1,b1,h3⟩
theorem qe{o:Oper}{a:Act}(x:Operand)(ho:o.op= .load 65 x)(g p:Nat)(hx:a.eval x= .pointer (some ⟨g,p,none⟩)){x0 x1 x2 x3 x4 x5 x6 x7:Value}(w:World)(h:∀j,j<8→w.cell? ⟨g,p+j,none⟩=(#[x0,x1,x2,x3,x4,x5,x6,x7]:Array Value)[j]?):(execOp a.eval o).run Tryz.prog w= .ok (.value (.agg #[x0,x1,x2,x3,x4,x5,x6,x7])) w:=by
 have q0:=h 0 (by decide);have q1:=h 1 (by decide);have q2:=h 2 (by decide);have q3:=h 3 (by decide);have q4:=h 4 (by decide);have q5:=h 5 (by decide);have q6:=h 6 (by decide);have q7:=h 7 (by decide);simp only[Nat.add_zero]at q0;simp only[qH,qG,qI]at q0 q1 q2 q3 q4 q5 q6 q7;unfold execOp;simp only[ho,hx];go_simp
theorem zbN{ps:List Pt}{d:Nat}{out:List R3}{k:Nat}{f c:Int}(h:256<out.length∨jF ps k f c=false):yx ps d out k f c=out:=by
 cases d with
 |zero=>rfl
 |succ d=>show(if _ then _ else _)=_;rw[if_pos h]
theorem zbS{ps:List Pt}{d:Nat}{out:List R3}{k:Nat}{f c:Int}(h1:¬256<out.length)(h2:jF ps k f c=true):yx ps (d+1) out k f c=xb ps (yx ps d) out (zx ps k) f c:=by
 show(if _ then _ else _)=_;rw[if_neg (by rw[h2];simp;omega)]
theorem Zr{ps:List Pt}{k:Nat}{f c:Int}(h:jF ps k f c=true):k<ps.length∧0≤f∧0<c∧f+c≤(sz ps k:Int):=by
 unfold jF at h;simp only[decide_eq_true_eq,Int.toNat_natCast]at h;omega
theorem UF{w:World}{fb:Nat}{A:Option Addr}{C:Nat}{ps:List Pt}{v:Value}{out:List R3}(h:vX w fb A C ps v out)(hwf:Jv ps)(k f c:Int)(hk:qo k)(hf:qo f)(hc:qo c)(hno:256<out.length∨jF ps k f c=false):Calls Tryz.prog 22 #[.pointer (some ⟨fb,0,none⟩),.int .i64 k,.int .i64 f,.int .i64 c] w (vY w fb A C ps v out):=by
 have hh:=Jh h hwf k f c hk hf hc;have hR:=h
 obtain⟨Av,Cv,rfl⟩:∃Av Cv,v= .slice Av out.length Cv:=by
  rcases h.row.2 with⟨rfl,h0⟩|⟨g,cap,cur,rfl,_⟩
  ·exact⟨none,0,by rw[h0]⟩
  ·exact⟨_,_,rfl⟩
 have c1:=h.has.cell 1;have lc:=h.has.lt;simp only[qH,qG,qI]at c1;have hfew:=h.few;by_cases ho:256<out.length
 ·have hoo:(256:Int)<(out.length:Int):=by omega
  have hd:decide ((256:Int)<(out.length:Int))=true:=decide_eq_true hoo;clear h;go_enter Tryz.func22,Tryz.ntmps22
  go_wp2
  refine bodyPost_ret (results_none rfl _ _ _) rfl ?_;exact⟨_,rfl,hR,yN.refl _ _ _⟩
 ·have hn:jF ps k f c=false:=hno.resolve_left ho
  rw[hn]at hh;have hoo:¬(256:Int)<(out.length:Int):=by omega
  clear h;go_enter Tryz.func22,Tryz.ntmps22
  go_wp2_with (first
   |((go_at_call 45)
     refine hh.mono ?_;(rintro e w1 ⟨rfl,hb1⟩)))
  refine bodyPost_ret (results_none rfl _ _ _) rfl ?_;exact⟨_,rfl,hR.keep hb1,yN.of hb1⟩
theorem Fa{w:World}{fb:Nat}{A:Option Addr}{C:Nat}{ps:List Pt}{v:Value}{out:List R3}(h:vX w fb A C ps v out)(hwf:Jv ps)(d k:Nat)(f c:Int)(ho:¬256<out.length)(hh:jF ps k f c=true)(hkind:(zx ps k).kind=1)
 (hx:∀(W:World) (v:Value) (out:List R3) (j:Nat) (f c:Int),vX W fb A C ps v out→j<k→qo f→qo c→Calls Tryz.prog 22 #[.pointer (some ⟨fb,0,none⟩),.int .i64 (j:Nat),.int .i64 f,.int .i64 c] W (vY W fb A C ps v (yx ps d out j f c))):
 Calls Tryz.prog 22 #[.pointer (some ⟨fb,0,none⟩),.int .i64 (k:Nat),.int .i64 f,.int .i64 c] w (vY w fb A C ps v (xb ps (yx ps d) out (zx ps k) f c)):=by
 have hR:=h;obtain⟨hkl,hf0,hc0,hfc⟩:=Zr hh;have hsz:=hwf.size k hkl;have hfi:=hwf.first k hkl;have hkl2:=hwf.few k hkl;have hkids:=hwf.kids k hkl;have hcap:ps.length≤C∧C≤9223372036854775807:=h.cap
 have hkk:qo (k:Nat):=⟨by omega,by omega⟩
 have hf:qo f:=⟨by omega,by omega⟩
 have hc:qo c:=⟨by omega,by omega⟩
 have hhas:=Jh h hwf (k:Nat) f c hkk hf hc;rw[hh]at hhas
 obtain⟨Av,Cv,rfl⟩:∃Av Cv,v= .slice Av out.length Cv:=by
  rcases h.row.2 with⟨rfl,h0⟩|⟨g,cap,cur,rfl,_⟩
  ·exact⟨none,0,by rw[h0]⟩
  ·exact⟨_,_,rfl⟩
 obtain⟨g,off,Ak,Ck,A2,n2,C2,A3,n3,C3,rfl,hg0,hg,hki,hkc,hkm,hcell⟩:=jw h.pts hkl
 have EQ:xb ps (yx ps d) out (zx ps k) f c=out++ [⟨((zx ps k).dev:Nat),f,c⟩]:=by
  unfold xb;rw[hkind];rfl
 rw[EQ];rw[hkind]at hcell;have hkm2:Ck≤9223372036854775807:=hkm;generalize hps:(zx ps k).size=psz at *;generalize hpd:(zx ps k).dev=pdv at *;generalize hpf:(zx ps k).first=pfi at *;generalize hpc:(zx ps k).chunk=pch at *;generalize hpk:(zx ps k).kids=pk at *
 obtain⟨Kn,hKn⟩:∃Kn,Kn=pk.length:=⟨_,rfl⟩
 rw[←hKn]at hcell hkc hkl2;have HKn:Hid (Kn=pk.length):=hKn;clear hps hpd hpf hpc hpk hKn;have c0:=h.has.cell 0;have c1:=h.has.cell 1;have lc:=h.has.lt;simp only[qH,qG,qI]at c0 c1;have hooi:¬(256:Int)<(out.length:Int):=by omega
 have hkli:(k:Int)<(ps.length:Int):=by omega
 clear EQ hh hkind h;go_enter Tryz.func22,Tryz.ntmps22
 go_wp2_with (first
  |((go_at_call 45)
    refine hhas.mono ?_;rintro e w1 ⟨rfl,hb1⟩;have c0b:=za hb1 c0;have c1b:=za hb1 c1;have lcb:=Nat.lt_of_lt_of_le lc hb1.size;(have hcellb:=λj (hj:j<8)=>(hb1.cell (p:=⟨g,off+k*8+j,none⟩) hg).trans (hcell j hj)))
  |((refine zi 30 rfl ?_)
    (refine zd (some 30) _ rfl (by rfl) (zE _ _ rfl g off k ps.length C rfl rfl hkl w1) ?_))
  |((refine zi 31 rfl ?_)
    refine zd (some 31) _ rfl (by rfl) (qe _ rfl g (off+k*8) rfl w1 hcellb) ?_;have H1:=(hR.keep hb1).keep (zl w1 (.cells #[.int .i64 1,.int .i64 (psz:Nat),.slice Ak Kn Ck,.int .i64 (pdv:Nat),.int .i64 (pfi:Nat),.int .i64 (pch:Nat),.slice A2 n2 C2,.slice A3 n3 C3] 65));have P1:=zm.new w1 65 #[.int .i64 1,.int .i64 (psz:Nat),.slice Ak Kn Ck,.int .i64 (pdv:Nat),.int .i64 (pfi:Nat),.int .i64 (pch:Nat),.slice A2 n2 C2,.slice A3 n3 C3];(have B1:Below w.heap.size w (w1.alloc (.cells #[.int .i64 1,.int .i64 (psz:Nat),.slice Ak Kn Ck,.int .i64 (pdv:Nat),.int .i64 (pfi:Nat),.int .i64 (pch:Nat),.slice A2 n2 C2,.slice A3 n3 C3] 65)):=hb1.alloc hb1.size _)))
 have c1c:=za (zl w1 (.cells #[.int .i64 1,.int .i64 (psz:Nat),.slice Ak Kn Ck,.int .i64 (pdv:Nat),.int .i64 (pfi:Nat),.int .i64 (pch:Nat),.slice A2 n2 C2,.slice A3 n3 C3] 65)) c1b;have P1c:=P1.cell 3;have lW1:(w1.alloc (.cells #[.int .i64 1,.int .i64 (psz:Nat),.slice Ak Kn Ck,.int .i64 (pdv:Nat),.int .i64 (pfi:Nat),.int .i64 (pch:Nat),.slice A2 n2 C2,.slice A3 n3 C3] 65)).heap.size=w1.heap.size+1:=by simp
 have hne3:(Value.slice Av out.length Cv).ownBlock≠some w1.heap.size:=λe=>by have:=(qR (hR.keep hb1).row e).1;omega
 generalize (w1.alloc (.cells #[.int .i64 1,.int .i64 (psz:Nat),.slice Ak Kn Ck,.int .i64 (pdv:Nat),.int .i64 (pfi:Nat),.int .i64 (pch:Nat),.slice A2 n2 C2,.slice A3 n3 C3] 65))=W1 at *;refine jp (S:=λwz=>wz.cell? ⟨fb,1,none⟩=some (.slice Av out.length Cv)∧wz.cell? ⟨w1.heap.size,3,none⟩=some (.int .i64 (pdv:Nat))∧vZ (λk=>k=fb∨(Value.slice Av out.length Cv).ownBlock=some k) W1 wz) 14 (by kernel_rfl) (⟨c1c,P1c,(vZ.refl _ _).drew⟩) (λhHeld=>?_);refine ja 0 (some 48) (.pointer (some ⟨fb,0,none⟩)) hHeld ?_;simp only[Act.put,zh,zf,zg];refine ja 1 (some 49) (.pointer (some ⟨fb,0,none⟩)) hHeld ?_;simp only[Act.put,zh,zf,zg];refine ja 2 (some 50) (.pointer (some ⟨fb,0,none⟩)) hHeld ?_;simp only[Act.put,zh,zf,zg];refine ja 3 (some 51) (.pointer (some ⟨fb,1,none⟩)) hHeld ?_;simp only[Act.put,zh,zf,zg];refine j3 4 (some 52) (.slice Av out.length Cv) rfl rfl (λwz hz=>by obtain⟨z0,z1,z2⟩:=hz;unfold execOp;go_simp) hHeld ?_;simp only[Act.put,zh,zf,zg];refine ja 5 (some 53) (.pointer (some ⟨w1.heap.size,3,none⟩)) hHeld ?_;simp only[Act.put,zh,zf,zg];refine j3 6 (some 54) (.int .i64 (pdv:Nat)) rfl rfl (λwz hz=>by obtain⟨z0,z1,z2⟩:=hz;unfold execOp;go_simp) hHeld ?_;simp only[Act.put,zh,zf,zg];refine ja 7 (some 55) (.int .i64 f) hHeld ?_;simp only[Act.put,zh,zf,zg];refine ja 8 (some 56) (.int .i64 c) hHeld ?_;simp only[Act.put,zh,zf,zg];refine j3 9 (some 57) (.agg #[.int .i64 (pdv:Nat),.int .i64 f,.int .i64 c]) rfl rfl (λ_ _=>by kernel_rfl) hHeld ?_;simp only[Act.put,zh,zf,zg]
 have hS2:(W1.drew.alloc (.cells #[.int .i64 (pdv:Nat),.int .i64 f,.int .i64 c] 42)).cell? ⟨fb,1,none⟩=some (.slice Av out.length Cv)∧(W1.drew.alloc (.cells #[.int .i64 (pdv:Nat),.int .i64 f,.int .i64 c] 42)).cell? ⟨w1.heap.size,3,none⟩=some (.int .i64 (pdv:Nat))∧vZ (λk=>k=fb∨(Value.slice Av out.length Cv).ownBlock=some k) W1 (W1.drew.alloc (.cells #[.int .i64 (pdv:Nat),.int .i64 f,.int .i64 c] 42)):=⟨za (zl W1.drew _) hHeld.1,za (zl W1.drew _) hHeld.2.1,hHeld.2.2.alloc _⟩
 refine zV 10 (some 58) (.slice (some ⟨W1.heap.size,0,none⟩) 1 1) (W1.drew.alloc (.cells #[.int .i64 (pdv:Nat),.int .i64 f,.int .i64 c] 42)) (by kernel_rfl) rfl rfl (by rfl) (by kernel_rfl) hS2 ?_;simp only[Act.put,zh,zf,zg];have row1:=((H1.keep (zr (Below.refl _ W1))).keep (zl W1.drew (.cells #[.int .i64 (pdv:Nat),.int .i64 f,.int .i64 c] 42))).row;obtain⟨A6,C6,w6,hr6,hrow6,hg6,hw6⟩:=zX Dp (ty:=40) (W1.drew.alloc (.cells #[.int .i64 (pdv:Nat),.int .i64 f,.int .i64 c] 42)) (fb+1) out.length _ _ row1 (by simp;omega) (by omega) [.int .i64 (pdv:Nat),.int .i64 f,.int .i64 c] rfl (by intro u hu;simp at hu;rcases hu with rfl|rfl|rfl<;>rfl) W1.heap.size (zm.new_at rfl);have hne:(Value.slice Av out.length Cv).ownBlock≠some fb:=λe=>by have:=(qR row1 e).2;omega
 have hne2:(Value.slice Av out.length Cv).ownBlock≠some w1.heap.size:=λe=>hne3 e
 have hF6:zm w6 fb 72 #[.slice (some ⟨g,off,none⟩) ps.length C,.slice Av out.length Cv]:=zy ((zt H1.has).alloc _) hg6 hne;have hP6:zm w6 w1.heap.size 65 #[.int .i64 1,.int .i64 (psz:Nat),.slice Ak Kn Ck,.int .i64 (pdv:Nat),.int .i64 (pfi:Nat),.int .i64 (pch:Nat),.slice A2 n2 C2,.slice A3 n3 C3]:=zy ((zt P1).alloc _) hg6 hne2;have hO6:vZ (λk=>k=fb∨(Value.slice Av out.length Cv).ownBlock=some k) W1 w6:=hS2.2.2.trans ⟨hg6.os,hg6.tape,hg6.output,hg6.size,λk hk hn=>hg6.block k hk (λe=>hn (.inr e.symm))⟩;refine zV 11 (some 59) (.slice A6 (out.length+1) C6) w6 (by kernel_rfl) rfl rfl (by rfl) (zW _ _ rfl rfl rfl hr6) ⟨hF6.cell 1,hP6.cell 3,hO6⟩ ?_;simp only[Act.put,zh,zf,zg]
 have hS6:w6.cell? ⟨fb,1,none⟩=some (.slice Av out.length Cv)∧w6.cell? ⟨w1.heap.size,3,none⟩=some (.int .i64 (pdv:Nat))∧vZ (λk=>k=fb∨(Value.slice Av out.length Cv).ownBlock=some k) W1 w6:=⟨hF6.cell 1,hP6.cell 3,hO6⟩
 refine zV 12 (some 60) (.pointer (some ⟨fb,0,none⟩)) w6 (by kernel_rfl) rfl rfl (by rfl) rfl hS6 ?_;simp only[Act.put,zh,zf,zg];refine zV 13 (some 61) (.pointer (some ⟨fb,1,none⟩)) w6 (by kernel_rfl) rfl rfl (by rfl) rfl hS6 ?_;simp only[Act.put,zh,zf,zg];have q6:=hF6.cell 1;have f6:=hF6.free 1;refine qC 14 none (w6.setCell ⟨fb,1,none⟩ (.slice A6 (out.length+1) C6)) (by kernel_rfl) rfl rfl (by rfl) (by unfold execOp;go_simp) (by kernel_rfl) ?_;simp only[Act.put]
 go_wp2
 go_end0
 have hfin:=H1.put (r:=⟨(pdv:Nat),f,c⟩) ho hF6 hrow6 hO6;refine⟨_,rfl,hfin,?_⟩
 have hb2:yN fb (.slice Av out.length Cv) W1 (.slice A6 (out.length+1) C6) (w6.setCell ⟨fb,1,none⟩ (.slice A6 (out.length+1) C6)):=⟨hO6.set (.inl (.inl rfl)) _,λj hj=>by
  rcases hw6 with e|e
  ·exact .inl (e ▸ hj)
  ·rw[e]at hj
   cases hj
   exact .inr (by simp)⟩
 exact(yN.of B1).trans hb2
theorem Uy{w:World}{fb:Nat}{A:Option Addr}{C:Nat}{ps:List Pt}{v:Value}{out:List R3}(h:vX w fb A C ps v out)(hwf:Jv ps)(d k:Nat)(f c:Int)(ho:¬256<out.length)(hh:jF ps k f c=true)(hkind:(zx ps k).kind=2)
 (hx:∀(W:World) (v:Value) (out:List R3) (j:Nat) (f c:Int),vX W fb A C ps v out→j<k→qo f→qo c→Calls Tryz.prog 22 #[.pointer (some ⟨fb,0,none⟩),.int .i64 (j:Nat),.int .i64 f,.int .i64 c] W (vY W fb A C ps v (yx ps d out j f c))):
 Calls Tryz.prog 22 #[.pointer (some ⟨fb,0,none⟩),.int .i64 (k:Nat),.int .i64 f,.int .i64 c] w (vY w fb A C ps v (xb ps (yx ps d) out (zx ps k) f c)):=by
 have hR:=h;obtain⟨hkl,hf0,hc0,hfc⟩:=Zr hh;have hsz:=hwf.size k hkl;have hfi:=hwf.first k hkl;have hkl2:=hwf.few k hkl;have hkids:=hwf.kids k hkl;have hcap:ps.length≤C∧C≤9223372036854775807:=h.cap
 have hkk:qo (k:Nat):=⟨by omega,by omega⟩
 have hf:qo f:=⟨by omega,by omega⟩
 have hc:qo c:=⟨by omega,by omega⟩
 have hhas:=Jh h hwf (k:Nat) f c hkk hf hc;rw[hh]at hhas
 obtain⟨Av,Cv,rfl⟩:∃Av Cv,v= .slice Av out.length Cv:=by
  rcases h.row.2 with⟨rfl,h0⟩|⟨g,cap,cur,rfl,_⟩
  ·exact⟨none,0,by rw[h0]⟩
  ·exact⟨_,_,rfl⟩
 obtain⟨g,off,Ak,Ck,A2,n2,C2,A3,n3,C3,rfl,hg0,hg,hki,hkc,hkm,hcell⟩:=jw h.pts hkl
 have EQ:xb ps (yx ps d) out (zx ps k) f c=(zx ps k).kids.foldl (λo j=>yx ps d o j (f+((zx ps k).first:Int)) c) out:=by
  unfold xb;rw[hkind];rfl
 rw[EQ];rw[hkind]at hcell;have hkm2:Ck≤9223372036854775807:=hkm;generalize hps:(zx ps k).size=psz at *;generalize hpd:(zx ps k).dev=pdv at *;generalize hpf:(zx ps k).first=pfi at *;generalize hpc:(zx ps k).chunk=pch at *;generalize hpk:(zx ps k).kids=pk at *
 obtain⟨Kn,hKn⟩:∃Kn,Kn=pk.length:=⟨_,rfl⟩
 rw[←hKn]at hcell hkc hkl2;have HKn:Hid (Kn=pk.length):=hKn;clear hps hpd hpf hpc hpk hKn;have c0:=h.has.cell 0;have c1:=h.has.cell 1;have lc:=h.has.lt;simp only[qH,qG,qI]at c0 c1;have hooi:¬(256:Int)<(out.length:Int):=by omega
 have hkli:(k:Int)<(ps.length:Int):=by omega
 clear EQ hh hkind h;go_enter Tryz.func22,Tryz.ntmps22
 go_wp2_with (first
  |((go_at_call 45)
    refine hhas.mono ?_;rintro e w1 ⟨rfl,hb1⟩;have c0b:=za hb1 c0;have c1b:=za hb1 c1;have lcb:=Nat.lt_of_lt_of_le lc hb1.size;(have hcellb:=λj (hj:j<8)=>(hb1.cell (p:=⟨g,off+k*8+j,none⟩) hg).trans (hcell j hj)))
  |((refine zi 30 rfl ?_)
    (refine zd (some 30) _ rfl (by rfl) (zE _ _ rfl g off k ps.length C rfl rfl hkl w1) ?_))
  |((refine zi 31 rfl ?_)
    refine zd (some 31) _ rfl (by rfl) (qe _ rfl g (off+k*8) rfl w1 hcellb) ?_;have H1:=(hR.keep hb1).keep (zl w1 (.cells #[.int .i64 2,.int .i64 (psz:Nat),.slice Ak Kn Ck,.int .i64 (pdv:Nat),.int .i64 (pfi:Nat),.int .i64 (pch:Nat),.slice A2 n2 C2,.slice A3 n3 C3] 65));have P1:=zm.new w1 65 #[.int .i64 2,.int .i64 (psz:Nat),.slice Ak Kn Ck,.int .i64 (pdv:Nat),.int .i64 (pfi:Nat),.int .i64 (pch:Nat),.slice A2 n2 C2,.slice A3 n3 C3];(have B1:Below w.heap.size w (w1.alloc (.cells #[.int .i64 2,.int .i64 (psz:Nat),.slice Ak Kn Ck,.int .i64 (pdv:Nat),.int .i64 (pfi:Nat),.int .i64 (pch:Nat),.slice A2 n2 C2,.slice A3 n3 C3] 65)):=hb1.alloc hb1.size _)))
 have lW1:(w1.alloc (.cells #[.int .i64 2,.int .i64 (psz:Nat),.slice Ak Kn Ck,.int .i64 (pdv:Nat),.int .i64 (pfi:Nat),.int .i64 (pch:Nat),.slice A2 n2 C2,.slice A3 n3 C3] 65)).heap.size=w1.heap.size+1:=by simp
 have BW1:Below fb w (w1.alloc (.cells #[.int .i64 2,.int .i64 (psz:Nat),.slice Ak Kn Ck,.int .i64 (pdv:Nat),.int .i64 (pfi:Nat),.int .i64 (pch:Nat),.slice A2 n2 C2,.slice A3 n3 C3] 65)):=B1.mono (Nat.le_of_lt lc)
 have ff:qo (f+(pfi:Int)):=⟨by omega,by omega⟩
 go_loopw [69] (λz wr=>∃(i:Nat) (v':Value) (out':List R3),z= .int .i64 (i:Nat)∧i≤Kn∧vX wr fb (some ⟨g,off,none⟩) C ps v' out'∧yN fb (.slice Av out.length Cv) (w1.alloc (.cells #[.int .i64 2,.int .i64 (psz:Nat),.slice Ak Kn Ck,.int .i64 (pdv:Nat),.int .i64 (pfi:Nat),.int .i64 (pch:Nat),.slice A2 n2 C2,.slice A3 n3 C3] 65)) v' wr∧Hid (out'=(pk.take i).foldl (λo j=>yx ps d o j (f+(pfi:Int)) c) out)) (λz _=>Kn-(intOf z).toNat)
 case atStart=>exact⟨0,_,out,rfl,Nat.zero_le _,H1,yN.refl _ _ _,rfl⟩
 case round =>
  obtain⟨i,v',out',rfl,hi,H2,S2,HO⟩:=hrel;by_cases hlt:i<Kn
  ·have hlp:i<pk.length:=by rw[←HKn.out];exact hlt
   have B2:Below fb (w1.alloc (.cells #[.int .i64 2,.int .i64 (psz:Nat),.slice Ak Kn Ck,.int .i64 (pdv:Nat),.int .i64 (pfi:Nat),.int .i64 (pch:Nat),.slice A2 n2 C2,.slice A3 n3 C3] 65)) wr:=S2.below (λj hj=>by have:=(qR H1.row hj).2;omega) (by have:=H1.has.lt;omega);obtain⟨b,o,eA,hbl,hbf,hcl⟩:=hki.resolve_left (by intro e;rw[e]at hlp;simp at hlp);have hck:=(B2.cell (p:=⟨b,o+i,none⟩) hbf).trans ((BW1.cell (p:=⟨b,o+i,none⟩) hbf).trans (hcl i hlp));have hkd:pk[i]<k:=hkids _ (List.getElem_mem hlp)
   have HG:Hid ((pk.take (i+1)).foldl (λo j=>yx ps d o j (f+(pfi:Int)) c) out=yx ps d out' pk[i] (f+(pfi:Int)) c):=by
    rw[List.take_succ_eq_append_getElem hlp,List.foldl_append,←HO.out];rfl
   have hcx:=hx wr v' out' pk[i] (f+(pfi:Int)) c H2 hkd ff hc;have hint:(i:Int)<(Kn:Int):=by omega
   clear hcl;generalize pk[i]=kid at hck hkd HG hcx;subst eA
   go_wp2_with (first
    |((go_at_call 22)
      refine hcx.mono ?_;(rintro e w5 ⟨v5,rfl,H5,S5⟩)))
   go_roundw
   case rel=>exact⟨i+1,v5,_,by go_num,by omega,H5,S2.trans S5,HG.out.symm⟩
   case measure=>simp[intOf];omega
  ·obtain rfl:i=Kn:=by omega
   have HF:Hid (out'=pk.foldl (λo j=>yx ps d o j (f+(pfi:Int)) c) out):=by
    rw[HO.out,HKn.out,List.take_length];exact rfl
   clear HO
   go_wp2
   go_end0
   refine⟨v',rfl,?_,(yN.of B1).trans S2⟩;rw[←HF.out];exact H2
theorem JK{w:World}{fb:Nat}{A:Option Addr}{C:Nat}{ps:List Pt}{v:Value}{out:List R3}(h:vX w fb A C ps v out)(d j:Nat)(hj:j<ps.length)(R:List R3)
 (hx:Calls Tryz.prog 22 #[.pointer (some ⟨fb,0,none⟩),.int .i64 (j:Nat),.int .i64 0,.int .i64 (sz ps j:Nat)] w (vY w fb A C ps v R)):
 Calls Tryz.prog 47 #[.pointer (some ⟨fb,0,none⟩),.int .i64 (j:Nat)] w (vY w fb A C ps v R):=by
 obtain⟨g,off,Ak,Ck,A2,n2,C2,A3,n3,C3,rfl,hg0,hg,hki,hkc,hkm,hcell⟩:=jw h.pts hj;have c0:=h.has.cell 0;have lc:=h.has.lt;have q1:=hcell 1 (by decide);simp only[qH,qG,qI]at c0 q1;have hcap:ps.length≤C∧C≤9223372036854775807:=h.cap;have hjj:(j:Int)<(ps.length:Int):=by omega
 rw[show(zx ps j).size=sz ps j from rfl]at q1;generalize sz ps j=S at hx q1;clear hcell h;go_enter Tryz.func47,Tryz.ntmps47
 go_wp2_with (first
  |((go_at_call 22)
    refine hx.mono ?_;(rintro e w1 ⟨v1,rfl,H1,S1⟩)))
 go_end0
 exact⟨v1,rfl,H1,S1⟩
theorem VM{o:Oper}{a:Act}(x y:Operand)(ho:o.op= .call { callee:= .builtin .max,args:=#[x,y],argTypes:=#[3,3] })(n m:Int)(hx:a.eval x= .int .i64 n)(hy:a.eval y= .int .i64 m)(w:World):(execOp a.eval o).run Tryz.prog w= .ok (.value (.int .i64 (max n m))) w:=by
 unfold execOp;simp only[ho,resolve,invoke,builtin,List.map_toArray,List.map_cons,List.map_nil,hx,hy];by_cases h:n<m
 ·have e:max n m=m:=by omega
  rw[e];go_simp
 ·have e:max n m=n:=by omega
  rw[e];go_simp
theorem VC{o:Oper}{a:Act}(x y:Operand)(ho:o.op= .call { callee:= .builtin .min,args:=#[x,y],argTypes:=#[3,3] })(n m:Int)(hx:a.eval x= .int .i64 n)(hy:a.eval y= .int .i64 m)(w:World):(execOp a.eval o).run Tryz.prog w= .ok (.value (.int .i64 (min n m))) w:=by
 unfold execOp;simp only[ho,resolve,invoke,builtin,List.map_toArray,List.map_cons,List.map_nil,hx,hy];by_cases h:n<m
 ·have e:min n m=n:=by omega
  rw[e];go_simp;omega
 ·have e:min n m=m:=by omega
  rw[e];go_simp;omega
def Dm(ps:List Pt)(G:List R3→Nat→Int→Int→List R3)(f c:Int)(x:List R3×Int)(k:Nat):List R3×Int:=(G x.1 k (max (f-x.2) 0) (min (f+c-x.2) (sz ps k)-max (f-x.2) 0),x.2+sz ps k)
theorem zce{ps:List Pt}{G:List R3→Nat→Int→Int→List R3}{f c:Int}(hs:∀k,sz ps k≤8192∨ps.length≤k)(l:List Nat):∀(x:List R3×Int),(∀k ∈ l,k<ps.length)→x.2≤(l.foldl (Dm ps G f c) x).2∧(l.foldl (Dm ps G f c) x).2≤x.2+8192*l.length:=by
 induction l with
 |nil=>intro x _;simp
 |cons k l ih =>
  intro x hk;have h1:=ih (Dm ps G f c x k) (λj hj=>hk j (by simp[hj]));have h2:(Dm ps G f c x k).2=x.2+sz ps k:=rfl;have h3:=hs k;have h4:=hk k (by simp);simp only[List.foldl_cons,List.length_cons];omega
theorem DX{w:World}{fb:Nat}{A:Option Addr}{C:Nat}{ps:List Pt}{v:Value}{out:List R3}(h:vX w fb A C ps v out)(hwf:Jv ps)(d k:Nat)(hkl:k<ps.length)(f c:Int)(hf:0≤f∧f≤8192)(hc:0≤c∧c≤8192)(Ak:Option Addr)(Kn Ck:Nat)(pk:List Nat)(hKn:Kn=pk.length)(hki:ZS w (λg=>g<fb) Ak pk)(hkids:∀j ∈ pk,j<k)(hlen:Kn≤1000)(hkc:Kn≤Ck)(hkm:Ck≤9223372036854775807)
 (hx:∀(W:World) (v:Value) (out:List R3) (j:Nat) (f c:Int),vX W fb A C ps v out→j<k→qo f→qo c→Calls Tryz.prog 22 #[.pointer (some ⟨fb,0,none⟩),.int .i64 (j:Nat),.int .i64 f,.int .i64 c] W (vY W fb A C ps v (yx ps d out j f c))):
 Calls Tryz.prog 46 #[.pointer (some ⟨fb,0,none⟩),.slice Ak Kn Ck,.int .i64 f,.int .i64 (f+c)] w (vY w fb A C ps v (pk.foldl (Dm ps (yx ps d) f c) (out,0)).1):=by
 have hcap:ps.length≤C∧C≤9223372036854775807:=h.cap;have HKn:Hid (Kn=pk.length):=hKn;have hlow:∀j,v.ownBlock=some j→fb≤j:=λj hj=>by have:=(qR h.row hj).2;omega
 have lc:=h.has.lt
 have HL:Hid (∀i,i≤pk.length→0≤((pk.take i).foldl (Dm ps (yx ps d) f c) (out,0)).2∧((pk.take i).foldl (Dm ps (yx ps d) f c) (out,0)).2≤8192000):=by
  intro i hi
  have:=zce (ps:=ps) (G:=yx ps d) (f:=f) (c:=c) (λj=>by
   by_cases hj:j<ps.length
   ·exact .inl (hwf.size j hj)
   ·exact .inr (by omega)) (pk.take i) (out,0) (λj hj=>by have:=hkids j (List.mem_of_mem_take hj);omega)
  simp only[List.length_take]at this;have hp:pk.length≤1000:=by omega
  constructor
  ·exact this.1
  ·omega
 clear hKn;go_enter Tryz.func46,Tryz.ntmps46
 go_wp2
 go_loopw [2,3,15] (λz2 z3 z wr=>∃(i:Nat) (s:Int) (v':Value) (out':List R3),z2= .int .i64 (f-s)∧z3= .int .i64 (f+c-s)∧z= .int .i64 (i:Nat)∧i≤Kn∧0≤s∧s≤8192000∧vX wr fb A C ps v' out'∧yN fb v w v' wr∧Hid ((pk.take i).foldl (Dm ps (yx ps d) f c) (out,0)=(out',s))) (λ_ _ z _=>Kn-(intOf z).toNat)
 case atStart=>exact⟨0,0,v,out,by simp,by simp,rfl,Nat.zero_le _,by decide,by decide,h,yN.refl _ _ _,rfl⟩
 case round =>
  obtain⟨i,s,v',out',rfl,rfl,rfl,hi,hs0,hs1,H2,S2,HO⟩:=hrel;by_cases hlt:i<Kn
  ·have hlp:i<pk.length:=by rw[←HKn.out];exact hlt
   have B2:Below fb w wr:=S2.below hlow (Nat.le_of_lt lc);obtain⟨b,o,eA,hbl,hbf,hcl⟩:=hki.resolve_left (by intro e;rw[e]at hlp;simp at hlp);have hck:=(B2.cell (p:=⟨b,o+i,none⟩) hbf).trans (hcl i hlp);have hkd:pk[i]<k:=hkids _ (List.getElem_mem hlp);have hsk:=hwf.size pk[i] (by omega);obtain⟨g,off,Aj,Cj,A2,n2,C2,A3,n3,C3,eP,hg0,hg,_,_,_,hcell⟩:=jw H2.pts (k:=pk[i]) (by omega);have q1:=hcell 1 (by decide);have c0:=H2.has.cell 0;have lr:=H2.has.lt;simp only[qH,qG,qI]at q1 c0;rw[show(zx ps pk[i]).size=sz ps pk[i]from rfl]at q1
   have HG:Hid ((pk.take (i+1)).foldl (Dm ps (yx ps d) f c) (out,0)=(yx ps d out' pk[i] (max (f-s) 0) (min (f+c-s) (sz ps pk[i])-max (f-s) 0),s+sz ps pk[i])):=by
    rw[List.take_succ_eq_append_getElem hlp,List.foldl_append,HO.out];exact rfl
   have HS:Hid (s+(sz ps pk[i]:Int)≤8192000):=by
    have:=(HL.out (i+1) (by omega)).2;rw[HG.out]at this;exact this
   have hk1:pk[i]<ps.length:=by omega
   have hcx:=hx wr v' out' pk[i] (max (f-s) 0) (min (f+c-s) (sz ps pk[i])-max (f-s) 0) H2 hkd ⟨by omega,by omega⟩ ⟨by omega,by omega⟩;clear hcl hcell HO;generalize pk[i]=kid at *;generalize sz ps kid=S at *;have hS2:s+(S:Int)≤8192000:=HS.out
   obtain⟨M,hM⟩:∃M,M=max (f-s) 0:=⟨_,rfl⟩
   obtain⟨m,hm⟩:∃m,m=min (f+c-s) (S:Int):=⟨_,rfl⟩
   have hM1:0≤M∧M≤8192:=by omega
   have hm1: -8192000≤m∧m≤8192:=by omega
   rw[←hM,←hm]at hcx HG;have HMX:Hid (M=max (f-s) 0):=hM;have HMN:Hid (m=min (f+c-s) (S:Int)):=hm;clear hM hm HS;have hint:(i:Int)<(Kn:Int):=by omega
   have hkint:(kid:Int)<(ps.length:Int):=by omega
   obtain⟨hM1a,hM1b⟩:=hM1;obtain⟨hm1a,hm1b⟩:=hm1;subst eA;subst eP
   go_wp2_with (first
    |((refine zi 24 rfl ?_)
      (refine zd (some 24) _ rfl (by rfl) (zE _ _ rfl g off kid ps.length C rfl rfl hk1 wr) ?_))
    |((refine zi 28 rfl ?_)
      (refine zd (some 28) (.int .i64 M) rfl (by rfl) (by rw[HMX.out];exact VM _ _ rfl _ _ rfl rfl wr) ?_))
    |((refine zi 31 rfl ?_)
      (refine zd (some 31) (.int .i64 m) rfl (by rfl) (by rw[HMN.out];exact VC _ _ rfl _ _ rfl rfl wr) ?_))
    |((go_at_call 22)
      refine hcx.mono ?_;(rintro e w5 ⟨v5,rfl,H5,S5⟩)))
   go_roundw
   case rel=>exact⟨i+1,s+S,v5,_,congrArg (Value.int .i64) (by omega),congrArg (Value.int .i64) (by omega),by go_num,by omega,by omega,by omega,H5,S2.trans S5,HG.out⟩
   case measure=>simp[intOf];omega
  ·obtain rfl:i=Kn:=by omega
   have HF:Hid ((pk.foldl (Dm ps (yx ps d) f c) (out,0)).1=out'):=by
    have:=HO.out;rw[HKn.out,List.take_length]at this;rw[this];exact rfl
   clear HO
   go_wp2
   go_end0
   exact⟨v',rfl,by rw[HF.out];exact H2,S2⟩
theorem Uf{w:World}{fb:Nat}{A:Option Addr}{C:Nat}{ps:List Pt}{v:Value}{out:List R3}(h:vX w fb A C ps v out)(hwf:Jv ps)(d k:Nat)(f c:Int)(ho:¬256<out.length)(hh:jF ps k f c=true)(hkind:(zx ps k).kind=3)
 (hx:∀(W:World) (v:Value) (out:List R3) (j:Nat) (f c:Int),vX W fb A C ps v out→j<k→qo f→qo c→Calls Tryz.prog 22 #[.pointer (some ⟨fb,0,none⟩),.int .i64 (j:Nat),.int .i64 f,.int .i64 c] W (vY W fb A C ps v (yx ps d out j f c))):
 Calls Tryz.prog 22 #[.pointer (some ⟨fb,0,none⟩),.int .i64 (k:Nat),.int .i64 f,.int .i64 c] w (vY w fb A C ps v (xb ps (yx ps d) out (zx ps k) f c)):=by
 have hR:=h;obtain⟨hkl,hf0,hc0,hfc⟩:=Zr hh;have hsz:=hwf.size k hkl;have hfi:=hwf.first k hkl;have hkl2:=hwf.few k hkl;have hkids:=hwf.kids k hkl;have hcap:ps.length≤C∧C≤9223372036854775807:=h.cap
 have hkk:qo (k:Nat):=⟨by omega,by omega⟩
 have hf:qo f:=⟨by omega,by omega⟩
 have hc:qo c:=⟨by omega,by omega⟩
 have hhas:=Jh h hwf (k:Nat) f c hkk hf hc;rw[hh]at hhas
 obtain⟨Av,Cv,rfl⟩:∃Av Cv,v= .slice Av out.length Cv:=by
  rcases h.row.2 with⟨rfl,h0⟩|⟨g,cap,cur,rfl,_⟩
  ·exact⟨none,0,by rw[h0]⟩
  ·exact⟨_,_,rfl⟩
 obtain⟨g,off,Ak,Ck,A2,n2,C2,A3,n3,C3,rfl,hg0,hg,hki,hkc,hkm,hcell⟩:=jw h.pts hkl
 have EQ:xb ps (yx ps d) out (zx ps k) f c=((zx ps k).kids.foldl (Dm ps (yx ps d) f c) (out,0)).1:=by
  unfold xb;rw[hkind];rfl
 rw[EQ];rw[hkind]at hcell;have hkm2:Ck≤9223372036854775807:=hkm;generalize hps:(zx ps k).size=psz at *;generalize hpd:(zx ps k).dev=pdv at *;generalize hpf:(zx ps k).first=pfi at *;generalize hpc:(zx ps k).chunk=pch at *;generalize hpk:(zx ps k).kids=pk at *
 obtain⟨Kn,hKn⟩:∃Kn,Kn=pk.length:=⟨_,rfl⟩
 rw[←hKn]at hcell hkc hkl2;have HKn:Hid (Kn=pk.length):=hKn;clear hps hpd hpf hpc hpk hKn;have c0:=h.has.cell 0;have c1:=h.has.cell 1;have lc:=h.has.lt;simp only[qH,qG,qI]at c0 c1;have hooi:¬(256:Int)<(out.length:Int):=by omega
 have hkli:(k:Int)<(ps.length:Int):=by omega
 clear EQ hh hkind h;go_enter Tryz.func22,Tryz.ntmps22
 go_wp2_with (first
  |((go_at_call 45)
    refine hhas.mono ?_;rintro e w1 ⟨rfl,hb1⟩;have c0b:=za hb1 c0;have c1b:=za hb1 c1;have lcb:=Nat.lt_of_lt_of_le lc hb1.size;(have hcellb:=λj (hj:j<8)=>(hb1.cell (p:=⟨g,off+k*8+j,none⟩) hg).trans (hcell j hj)))
  |((refine zi 30 rfl ?_)
    (refine zd (some 30) _ rfl (by rfl) (zE _ _ rfl g off k ps.length C rfl rfl hkl w1) ?_))
  |((refine zi 31 rfl ?_)
    refine zd (some 31) _ rfl (by rfl) (qe _ rfl g (off+k*8) rfl w1 hcellb) ?_;have H1:=(hR.keep hb1).keep (zl w1 (.cells #[.int .i64 3,.int .i64 (psz:Nat),.slice Ak Kn Ck,.int .i64 (pdv:Nat),.int .i64 (pfi:Nat),.int .i64 (pch:Nat),.slice A2 n2 C2,.slice A3 n3 C3] 65));have P1:=zm.new w1 65 #[.int .i64 3,.int .i64 (psz:Nat),.slice Ak Kn Ck,.int .i64 (pdv:Nat),.int .i64 (pfi:Nat),.int .i64 (pch:Nat),.slice A2 n2 C2,.slice A3 n3 C3];(have B1:Below w.heap.size w (w1.alloc (.cells #[.int .i64 3,.int .i64 (psz:Nat),.slice Ak Kn Ck,.int .i64 (pdv:Nat),.int .i64 (pfi:Nat),.int .i64 (pch:Nat),.slice A2 n2 C2,.slice A3 n3 C3] 65)):=hb1.alloc hb1.size _))
  |((go_at_call 46)
    refine(DX H1 hwf d k hkl f c ⟨by omega,by omega⟩ ⟨by omega,by omega⟩ Ak Kn Ck pk HKn.out (hki.keep B1.size (λj hj hB=>⟨B1.block j hj,hB⟩)) hkids hkl2 hkc hkm2 hx).mono ?_;(rintro e w5 ⟨v5,rfl,H5,S5⟩)))
 go_end0
 exact⟨v5,rfl,H5,(yN.of B1).trans S5⟩
theorem KV{w:World}{fb:Nat}{A:Option Addr}{C:Nat}{ps:List Pt}{v:Value}{out:List R3}(h:vX w fb A C ps v out)(hwf:Jv ps)(d k:Nat)(f c:Int)(ho:¬256<out.length)(hh:jF ps k f c=true)(hkind:(zx ps k).kind=4)
 (hx:∀(W:World) (v:Value) (out:List R3) (j:Nat) (f c:Int),vX W fb A C ps v out→j<k→qo f→qo c→Calls Tryz.prog 22 #[.pointer (some ⟨fb,0,none⟩),.int .i64 (j:Nat),.int .i64 f,.int .i64 c] W (vY W fb A C ps v (yx ps d out j f c))):
 Calls Tryz.prog 22 #[.pointer (some ⟨fb,0,none⟩),.int .i64 (k:Nat),.int .i64 f,.int .i64 c] w (vY w fb A C ps v (xb ps (yx ps d) out (zx ps k) f c)):=by
 have hR:=h;obtain⟨hkl,hf0,hc0,hfc⟩:=Zr hh;have hsz:=hwf.size k hkl;have hfi:=hwf.first k hkl;have hkl2:=hwf.few k hkl;have hkids:=hwf.kids k hkl;have hcap:ps.length≤C∧C≤9223372036854775807:=h.cap
 have hkk:qo (k:Nat):=⟨by omega,by omega⟩
 have hf:qo f:=⟨by omega,by omega⟩
 have hc:qo c:=⟨by omega,by omega⟩
 have hhas:=Jh h hwf (k:Nat) f c hkk hf hc;rw[hh]at hhas
 obtain⟨Av,Cv,rfl⟩:∃Av Cv,v= .slice Av out.length Cv:=by
  rcases h.row.2 with⟨rfl,h0⟩|⟨g,cap,cur,rfl,_⟩
  ·exact⟨none,0,by rw[h0]⟩
  ·exact⟨_,_,rfl⟩
 obtain⟨g,off,Ak,Ck,A2,n2,C2,A3,n3,C3,rfl,hg0,hg,hki,hkc,hkm,hcell⟩:=jw h.pts hkl
 have EQ:xb ps (yx ps d) out (zx ps k) f c=(zx ps k).kids.foldl (λo j=>yx ps d o j (f) c) out:=by
  unfold xb;rw[hkind];rfl
 rw[EQ];rw[hkind]at hcell;have hkm2:Ck≤9223372036854775807:=hkm;generalize hps:(zx ps k).size=psz at *;generalize hpd:(zx ps k).dev=pdv at *;generalize hpf:(zx ps k).first=pfi at *;generalize hpc:(zx ps k).chunk=pch at *;generalize hpk:(zx ps k).kids=pk at *
 obtain⟨Kn,hKn⟩:∃Kn,Kn=pk.length:=⟨_,rfl⟩
 rw[←hKn]at hcell hkc hkl2;have HKn:Hid (Kn=pk.length):=hKn;clear hps hpd hpf hpc hpk hKn;have c0:=h.has.cell 0;have c1:=h.has.cell 1;have lc:=h.has.lt;simp only[qH,qG,qI]at c0 c1;have hooi:¬(256:Int)<(out.length:Int):=by omega
 have hkli:(k:Int)<(ps.length:Int):=by omega
 clear EQ hh hkind h;go_enter Tryz.func22,Tryz.ntmps22
 go_wp2_with (first
  |((go_at_call 45)
    refine hhas.mono ?_;rintro e w1 ⟨rfl,hb1⟩;have c0b:=za hb1 c0;have c1b:=za hb1 c1;have lcb:=Nat.lt_of_lt_of_le lc hb1.size;(have hcellb:=λj (hj:j<8)=>(hb1.cell (p:=⟨g,off+k*8+j,none⟩) hg).trans (hcell j hj)))
  |((refine zi 30 rfl ?_)
    (refine zd (some 30) _ rfl (by rfl) (zE _ _ rfl g off k ps.length C rfl rfl hkl w1) ?_))
  |((refine zi 31 rfl ?_)
    refine zd (some 31) _ rfl (by rfl) (qe _ rfl g (off+k*8) rfl w1 hcellb) ?_;have H1:=(hR.keep hb1).keep (zl w1 (.cells #[.int .i64 4,.int .i64 (psz:Nat),.slice Ak Kn Ck,.int .i64 (pdv:Nat),.int .i64 (pfi:Nat),.int .i64 (pch:Nat),.slice A2 n2 C2,.slice A3 n3 C3] 65));have P1:=zm.new w1 65 #[.int .i64 4,.int .i64 (psz:Nat),.slice Ak Kn Ck,.int .i64 (pdv:Nat),.int .i64 (pfi:Nat),.int .i64 (pch:Nat),.slice A2 n2 C2,.slice A3 n3 C3];(have B1:Below w.heap.size w (w1.alloc (.cells #[.int .i64 4,.int .i64 (psz:Nat),.slice Ak Kn Ck,.int .i64 (pdv:Nat),.int .i64 (pfi:Nat),.int .i64 (pch:Nat),.slice A2 n2 C2,.slice A3 n3 C3] 65)):=hb1.alloc hb1.size _)))
 have lW1:(w1.alloc (.cells #[.int .i64 4,.int .i64 (psz:Nat),.slice Ak Kn Ck,.int .i64 (pdv:Nat),.int .i64 (pfi:Nat),.int .i64 (pch:Nat),.slice A2 n2 C2,.slice A3 n3 C3] 65)).heap.size=w1.heap.size+1:=by simp
 have BW1:Below fb w (w1.alloc (.cells #[.int .i64 4,.int .i64 (psz:Nat),.slice Ak Kn Ck,.int .i64 (pdv:Nat),.int .i64 (pfi:Nat),.int .i64 (pch:Nat),.slice A2 n2 C2,.slice A3 n3 C3] 65)):=B1.mono (Nat.le_of_lt lc)
 have ff:qo (f):=⟨by omega,by omega⟩
 go_loopw [69] (λz wr=>∃(i:Nat) (v':Value) (out':List R3),z= .int .i64 (i:Nat)∧i≤Kn∧vX wr fb (some ⟨g,off,none⟩) C ps v' out'∧yN fb (.slice Av out.length Cv) (w1.alloc (.cells #[.int .i64 4,.int .i64 (psz:Nat),.slice Ak Kn Ck,.int .i64 (pdv:Nat),.int .i64 (pfi:Nat),.int .i64 (pch:Nat),.slice A2 n2 C2,.slice A3 n3 C3] 65)) v' wr∧Hid (out'=(pk.take i).foldl (λo j=>yx ps d o j (f) c) out)) (λz _=>Kn-(intOf z).toNat)
 case atStart=>exact⟨0,_,out,rfl,Nat.zero_le _,H1,yN.refl _ _ _,rfl⟩
 case round =>
  obtain⟨i,v',out',rfl,hi,H2,S2,HO⟩:=hrel;by_cases hlt:i<Kn
  ·have hlp:i<pk.length:=by rw[←HKn.out];exact hlt
   have B2:Below fb (w1.alloc (.cells #[.int .i64 4,.int .i64 (psz:Nat),.slice Ak Kn Ck,.int .i64 (pdv:Nat),.int .i64 (pfi:Nat),.int .i64 (pch:Nat),.slice A2 n2 C2,.slice A3 n3 C3] 65)) wr:=S2.below (λj hj=>by have:=(qR H1.row hj).2;omega) (by have:=H1.has.lt;omega);obtain⟨b,o,eA,hbl,hbf,hcl⟩:=hki.resolve_left (by intro e;rw[e]at hlp;simp at hlp);have hck:=(B2.cell (p:=⟨b,o+i,none⟩) hbf).trans ((BW1.cell (p:=⟨b,o+i,none⟩) hbf).trans (hcl i hlp));have hkd:pk[i]<k:=hkids _ (List.getElem_mem hlp)
   have HG:Hid ((pk.take (i+1)).foldl (λo j=>yx ps d o j (f) c) out=yx ps d out' pk[i] (f) c):=by
    rw[List.take_succ_eq_append_getElem hlp,List.foldl_append,←HO.out];rfl
   have hcx:=hx wr v' out' pk[i] (f) c H2 hkd ff hc;have hint:(i:Int)<(Kn:Int):=by omega
   clear hcl;generalize pk[i]=kid at hck hkd HG hcx;subst eA
   go_wp2_with (first
    |((go_at_call 22)
      refine hcx.mono ?_;(rintro e w5 ⟨v5,rfl,H5,S5⟩)))
   go_roundw
   case rel=>exact⟨i+1,v5,_,by go_num,by omega,H5,S2.trans S5,HG.out.symm⟩
   case measure=>simp[intOf];omega
  ·obtain rfl:i=Kn:=by omega
   have HF:Hid (out'=pk.foldl (λo j=>yx ps d o j (f) c) out):=by
    rw[HO.out,HKn.out,List.take_length];exact rfl
   clear HO
   go_wp2
   go_end0
   refine⟨v',rfl,?_,(yN.of B1).trans S2⟩;rw[←HF.out];exact H2
theorem Yx{w:World}{fb:Nat}{A:Option Addr}{C:Nat}{ps:List Pt}{v:Value}{out:List R3}(h:vX w fb A C ps v out)(hwf:Jv ps)(d k:Nat)(f c:Int)(ho:¬256<out.length)(hh:jF ps k f c=true)(hkind:(zx ps k).kind=5)
 (hx:∀(W:World) (v:Value) (out:List R3) (j:Nat) (f c:Int),vX W fb A C ps v out→j<k→qo f→qo c→Calls Tryz.prog 22 #[.pointer (some ⟨fb,0,none⟩),.int .i64 (j:Nat),.int .i64 f,.int .i64 c] W (vY W fb A C ps v (yx ps d out j f c))):
 Calls Tryz.prog 22 #[.pointer (some ⟨fb,0,none⟩),.int .i64 (k:Nat),.int .i64 f,.int .i64 c] w (vY w fb A C ps v (xb ps (yx ps d) out (zx ps k) f c)):=by
 have hR:=h;obtain⟨hkl,hf0,hc0,hfc⟩:=Zr hh;have hsz:=hwf.size k hkl;have hfi:=hwf.first k hkl;have hkl2:=hwf.few k hkl;have hkids:=hwf.kids k hkl;have hcap:ps.length≤C∧C≤9223372036854775807:=h.cap
 have hkk:qo (k:Nat):=⟨by omega,by omega⟩
 have hf:qo f:=⟨by omega,by omega⟩
 have hc:qo c:=⟨by omega,by omega⟩
 have hhas:=Jh h hwf (k:Nat) f c hkk hf hc;rw[hh]at hhas
 obtain⟨Av,Cv,rfl⟩:∃Av Cv,v= .slice Av out.length Cv:=by
  rcases h.row.2 with⟨rfl,h0⟩|⟨g,cap,cur,rfl,_⟩
  ·exact⟨none,0,by rw[h0]⟩
  ·exact⟨_,_,rfl⟩
 obtain⟨g,off,Ak,Ck,A2,n2,C2,A3,n3,C3,rfl,hg0,hg,hki,hkc,hkm,hcell⟩:=jw h.pts hkl
 have EQ:xb ps (yx ps d) out (zx ps k) f c=yx ps d (yx ps d out ((zx ps k).kids.getD 0 0) f c) ((zx ps k).kids.getD 1 0) 0 (sz ps ((zx ps k).kids.getD 1 0)):=by
  unfold xb;rw[hkind];rfl
 rw[EQ];rw[hkind]at hcell;have hkm2:Ck≤9223372036854775807:=hkm;have htwo0:=hwf.snap k hkl hkind;generalize hps:(zx ps k).size=psz at *;generalize hpd:(zx ps k).dev=pdv at *;generalize hpf:(zx ps k).first=pfi at *;generalize hpc:(zx ps k).chunk=pch at *;generalize hpk:(zx ps k).kids=pk at *
 obtain⟨Kn,hKn⟩:∃Kn,Kn=pk.length:=⟨_,rfl⟩
 rw[←hKn]at hcell hkc hkl2;have HKn:Hid (Kn=pk.length):=hKn;have htwo:Kn=2:=by rw[hKn];exact htwo0
 clear htwo0 hps hpd hpf hpc hpk hKn;have h0:1<pk.length:=by rw[←HKn.out];omega
 obtain⟨b,o,eA,hbl,hbf,hcl⟩:=hki.resolve_left (by intro e;rw[e]at h0;simp at h0);have hc0k:=hcl 0 (by omega);have hc1k:=hcl 1 h0;have hkd:pk[0]<k:=hkids _ (List.getElem_mem _);have hkd1:pk[1]<k:=hkids _ (List.getElem_mem _);rw[show pk.getD 0 0=pk[0] by rw[List.getD_eq_getElem?_getD,List.getElem?_eq_getElem (by omega)];rfl,show pk.getD 1 0=pk[1] by rw[List.getD_eq_getElem?_getD,List.getElem?_eq_getElem h0];rfl];rw[Nat.add_zero]at hc0k;generalize pk[0]=kid at hc0k hkd ⊢;generalize pk[1]=kid1 at hc1k hkd1 ⊢;clear hcl;subst eA;subst htwo;have c0:=h.has.cell 0;have c1:=h.has.cell 1;have lc:=h.has.lt;simp only[qH,qG,qI]at c0 c1;have hooi:¬(256:Int)<(out.length:Int):=by omega
 have hkli:(k:Int)<(ps.length:Int):=by omega
 clear EQ hh hkind h;go_enter Tryz.func22,Tryz.ntmps22
 go_wp2_with (first
  |((go_at_call 45)
    refine hhas.mono ?_;rintro e w1 ⟨rfl,hb1⟩;have c0b:=za hb1 c0;have c1b:=za hb1 c1;have lcb:=Nat.lt_of_lt_of_le lc hb1.size;(have hcellb:=λj (hj:j<8)=>(hb1.cell (p:=⟨g,off+k*8+j,none⟩) hg).trans (hcell j hj)))
  |((refine zi 30 rfl ?_)
    (refine zd (some 30) _ rfl (by rfl) (zE _ _ rfl g off k ps.length C rfl rfl hkl w1) ?_))
  |((refine zi 31 rfl ?_)
    refine zd (some 31) _ rfl (by rfl) (qe _ rfl g (off+k*8) rfl w1 hcellb) ?_;have H1:=(hR.keep hb1).keep (zl w1 (.cells #[.int .i64 5,.int .i64 (psz:Nat),.slice (some ⟨b,o,none⟩) 2 Ck,.int .i64 (pdv:Nat),.int .i64 (pfi:Nat),.int .i64 (pch:Nat),.slice A2 n2 C2,.slice A3 n3 C3] 65));have P1:=zm.new w1 65 #[.int .i64 5,.int .i64 (psz:Nat),.slice (some ⟨b,o,none⟩) 2 Ck,.int .i64 (pdv:Nat),.int .i64 (pfi:Nat),.int .i64 (pch:Nat),.slice A2 n2 C2,.slice A3 n3 C3];have B1:Below w.heap.size w (w1.alloc (.cells #[.int .i64 5,.int .i64 (psz:Nat),.slice (some ⟨b,o,none⟩) 2 Ck,.int .i64 (pdv:Nat),.int .i64 (pfi:Nat),.int .i64 (pch:Nat),.slice A2 n2 C2,.slice A3 n3 C3] 65)):=hb1.alloc hb1.size _;have hck:=(B1.cell (p:=⟨b,o,none⟩) hbl).trans hc0k;(have hck1:=(B1.cell (p:=⟨b,o+1,none⟩) hbl).trans hc1k))
  |((go_at_call 22)
    refine(hx _ _ _ kid f c H1 hkd hf hc).mono ?_;rintro e w5 ⟨v5,rfl,H5,S5⟩;have B5:=S5.below (λj hj=>by have:=(qR H1.row hj).2;omega) (Nat.le_of_lt H1.has.lt);have hck5:=(B5.cell (p:=⟨b,o+1,none⟩) hbf).trans hck1;have P5:zm w5 w1.heap.size 65 #[.int .i64 5,.int .i64 (psz:Nat),.slice (some ⟨b,o,none⟩) 2 Ck,.int .i64 (pdv:Nat),.int .i64 (pfi:Nat),.int .i64 (pch:Nat),.slice A2 n2 C2,.slice A3 n3 C3]:=P1.onl S5.only (by rintro(e|e);omega;have:=(qR (hR.keep hb1).row e).1;omega);have p52:=P5.cell 2;(have lp5:=P5.lt))
  |((go_at_call 47)
    refine(JK H5 d kid1 (by omega) _ (hx _ _ _ kid1 0 (sz ps kid1:Nat) H5 hkd1 ⟨by decide,by decide⟩ ⟨by omega,by have:=hwf.size kid1 (by omega);omega⟩)).mono ?_;(rintro e w6 ⟨v6,rfl,H6,S6⟩)))
 go_end0
 exact⟨v6,rfl,H6,(yN.of B1).trans (S5.trans S6)⟩
end
end Go.Proofs.YteaddcdpgcgggaaGreatDoor
