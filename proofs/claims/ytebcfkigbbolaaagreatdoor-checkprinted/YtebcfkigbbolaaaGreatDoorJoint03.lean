import Derived.Test.YtebcfkigbbolaaaGreatDoorJoint02
import Derived.BigQuiet
import Derived.Deep.QuietTactic
import Derived.Test.YtebcfkigbbolaaaGreatDoorJoint00
namespace Go.Proofs.YtebcfkigbbolaaaGreatDoor
set_option linter.unusedVariables false
set_option maxRecDepth 100000
set_option maxHeartbeats 40000000
section
open Go.ChangeShapes Go.WideShapes Go.ChangeAt Go.RowKit
def flt(c k:Nat):List PanicEntry:= [{ v:= .iface 127 (.agg #[.int .i64 (c:Nat),.int .i64 (k:Nat)]),recovered:=false }]
theorem VR{o:Oper}{a:Act}(x l:Operand)(ho:o.op= .slice 56 x (some l) none none)(b off L cap:Nat)(hx:a.eval x= .slice (some ⟨b,off,none⟩) L cap)(hl:a.eval l= .int .i64 1)(h1:1≤L)(w:World):
 (execOp a.eval o).run Tryz.prog w= .ok (.value (.slice (some (if cap=1 then⟨b,off,none⟩else⟨b,off+4,none⟩)) (L-1) (cap-1))) w:=by
 unfold execOp;simp only[ho,hx,hl,Option.map_some,Option.map_none];obtain⟨i0,hi,hz0,hz1,hz2⟩:=info_parts Tryz.infoTok;have h1':(1:Int)≤(L:Int):=by omega
 simp[Instr.sliceAt,Instr.slice,Instr.sliceBounds,Instr.sliceBound,run_underlying Tryz.underlying56,go_sem,asIntOf,h1',sizeOf,typeInfo,hi,hz1]
 split<;>rfl
theorem Kp.setNew{p:Nat}{w w':World}(h:Kp p w w'){q:Addr}(hq:w.heap.size≤q.block)(v:Value):Kp p w (w'.setCell q v):=
 ⟨h.os,h.tape,h.output,by have:=h.size;simpa using this,λk hk hn=>(Below.heap_setCell w' q v k (by omega)).trans (h.block k hk hn)⟩
theorem Kp.setP{p:Nat}{w w':World}(h:Kp p w w')(j:Nat)(v:Value):Kp p w (w'.setCell ⟨p,j,none⟩ v):=
 ⟨h.os,h.tape,h.output,by have:=h.size;simpa using this,λk hk hn=>(Below.heap_setCell w' ⟨p,j,none⟩ v k (λe=>hn (by rw[e]))).trans (h.block k hk hn)⟩
theorem ze.putP{w:World}{g t:Nat}{cs:Array Value}(h:ze w g t cs)(j:Nat)(v:Value):ze (w.setCell ⟨g,j,none⟩ v) g t (cs.setIfInBounds j v):=by
 have h':w.heap[g]?=some (.cells cs t (0,0)):=h;show(w.setCell ⟨g,j,none⟩ _).heap[g]?=_;simp only[World.setCell,Array.getElem?_modify,h',if_pos,Option.map_some];rfl
theorem JC{fn:Func}{R:Ending→World→Prop}{a:Act}{W:World}{s g:Nat}{x0 x1 x2 x3:Value}(hr:fn.results= #[.cell s 100])(hs:a.tmps[s]?.getD undef= .pointer (some ⟨g,0,none⟩))(hH:ze W g 100 #[x0,x1,x2,x3])(hd:a.defers= [])(h:R (.returned (.agg #[x0,x1,x2,x3])) W):bodyPost Tryz.prog fn R .ret a W:=by
 have q0:=hH.cell 0;have q1:=hH.cell 1;have q2:=hH.cell 2;have q3:=hH.cell 3;exact bodyPost_ret (by simp only[results,hr];simp[hs,go_sem,q0,q1,q2,q3]) hd h
theorem zY{fn:Func}{R:Ending→World→Prop}{a:Act}{W:World}{s g:Nat}{x0 x1 x2 x3 x4:Value}(hr:fn.results= #[.cell s 24])(hs:a.tmps[s]?.getD undef= .pointer (some ⟨g,0,none⟩))(hH:ze W g 24 #[x0,x1,x2,x3,x4])(hd:a.defers= [])(h:R (.returned (.agg #[x0,x1,x2,x3,x4])) W):bodyPost Tryz.prog fn R .ret a W:=by
 have q0:=hH.cell 0;have q1:=hH.cell 1;have q2:=hH.cell 2;have q3:=hH.cell 3;have q4:=hH.cell 4;exact bodyPost_ret (by simp only[results,hr];simp[hs,go_sem,q0,q1,q2,q3,q4]) hd h
theorem ze.set4{w:World}{g t:Nat}{a b c d:Value}(h:ze w g t #[a,b,c,d])(x0 x1 x2 x3:Value):ze ((((w.setCell ⟨g,0,none⟩ x0).setCell ⟨g,1,none⟩ x1).setCell ⟨g,2,none⟩ x2).setCell ⟨g,3,none⟩ x3) g t #[x0,x1,x2,x3]:=by
 have:=(((h.putP 0 x0).putP 1 x1).putP 2 x2).putP 3 x3
 simpa using this
theorem ze.set5{w:World}{g t:Nat}{a b c d e:Value}(h:ze w g t #[a,b,c,d,e])(x0 x1 x2 x3 x4:Value):ze (((((w.setCell ⟨g,0,none⟩ x0).setCell ⟨g,1,none⟩ x1).setCell ⟨g,2,none⟩ x2).setCell ⟨g,3,none⟩ x3).setCell ⟨g,4,none⟩ x4) g t #[x0,x1,x2,x3,x4]:=by
 have:=((((h.putP 0 x0).putP 1 x1).putP 2 x2).putP 3 x3).putP 4 x4
 simpa using this
theorem Y9.kp{w w':World}{p g off:Nat}{ts:zo}(h:Y9 w g off ts)(hk:Kp p w w')(hg:g≠p)(hl:g<w.heap.size):Y9 w' g off ts:=
 λi hi j hj=>(World.cell?_of_block (hk.block g hl (λe=>hg (by cases e;rfl)))).trans (h i hi j hj)
theorem Y9.tail{w:World}{g off:Nat}{t:Tk×Nat}{ts:zo}(h:Y9 w g off (t::ts)):Y9 w g (off+4) ts:=by
 intro i hi j hj;have:=h (i+1) (by simp;omega) j hj;rw[show off+4+i*4+j=off+(i+1)*4+j by omega];exact this
def zba(w:World)(pb en:Nat)(t:Tk×Nat)(r:zo)(e:Ending)(w':World):Prop:=e= .returned (.agg (qt t.1 t.2))∧jF w' pb r en∧Kp pb w w'
theorem de{w:World}{pb en:Nat}{t:Tk×Nat}{r:zo}(h:jF w pb (t::r) en){v:Value}{p:Tk→Bool}(ha:Ja w pb v p)(hp:p t.1=true):Calls Tryz.prog 130 #[.pointer (some ⟨pb,0,none⟩),v] w (zba w pb en t r):=by
 have hcm:=λo=>JK (h.below ((Below.refl w.heap.size w).alloc (Nat.le_refl _) o)) (ha.kp (Kp.of ((Below.refl w.heap.size w).alloc (Nat.le_refl _) o)))
 simp only[qz,hp]at hcm;obtain⟨A,C,hH,h1,h2,h3,h4⟩:=h;have hlt:=hH.lt;obtain⟨g,off,rfl,hg,ht⟩:=h4 (by simp);have d0:w.cell? ⟨g,off,none⟩=some (.int .i64 (t.1.kind:Nat)):=by have:=ht 0 (by simp) 0 (by decide);simpa [qt]using this
 have d1:w.cell? ⟨g,off+1,none⟩=some (.string (bs t.1.s)):=by have:=ht 0 (by simp) 1 (by decide);simpa [qt]using this
 have d2:w.cell? ⟨g,off+2,none⟩=some (.int .i64 (t.1.n:Nat)):=by have:=ht 0 (by simp) 2 (by decide);simpa [qt]using this
 have d3:w.cell? ⟨g,off+3,none⟩=some (.int .i64 (t.2:Nat)):=by have:=ht 0 (by simp) 3 (by decide);simpa [qt]using this
 simp only[List.length_cons]at *
 obtain⟨L,hL⟩:∃L,L=r.length:=⟨_,rfl⟩
 rw[←hL]at hH h1 h3
 obtain⟨R,hR⟩:∃R:Addr,R=if C=1 then(⟨g,off,none⟩:Addr)else⟨g,off+4,none⟩:=⟨_,rfl⟩
 have HR:Hid (R=if C=1 then(⟨g,off,none⟩:Addr)else⟨g,off+4,none⟩):=hR;have HT:Hid (Y9 w g off (t::r)):=ht;have HL:Hid (L=r.length):=hL;clear hL ht h4 hR hp;have hv:∃fn fs cs,v= .func fn fs cs:=by cases ha<;>exact⟨_,_,_,rfl⟩
 obtain⟨fn,fs,cs,rfl⟩:=hv;clear ha;have hz:w.heap.size≠pb:=by omega
 have hz':pb≠w.heap.size:=by omega
 go_enter Tryz.func130,Tryz.ntmps130
 go_wp2_with (first
  |((go_at_call 135)
    refine(hcm _).mono ?_;rintro e w1 ⟨rfl,hb⟩;have hbw:Below w.heap.size w w1:=((Below.refl _ _).alloc (Nat.le_refl _) _).trans (hb.mono (by simp));have hr4:ze w1 w.heap.size 100 #[.int .i64 0,.string ⟨#[]⟩,.int .i64 0,.int .i64 0]:=(ze.new w _ _).below hb (by simp);have r0:=hr4.cell 0;have r1:=hr4.cell 1;have r2:=hr4.cell 2;have r3:=hr4.cell 3;have f0:=hr4.free 0;have f1:=hr4.free 1;have f2:=hr4.free 2;have f3:=hr4.free 3;have hH1:=hH.below hbw hlt;have hlt1:=hH1.lt;have hlt4:=hr4.lt;have c0:=hH1.cell 0;have c1:=hH1.cell 1;have z0:=hH1.free 0;have e0:=(hbw.cell (p:=⟨g,off,none⟩) (by show g<_;omega)).trans d0;have e1:=(hbw.cell (p:=⟨g,off+1,none⟩) (by show g<_;omega)).trans d1;have e2:=(hbw.cell (p:=⟨g,off+2,none⟩) (by show g<_;omega)).trans d2;have e3:=(hbw.cell (p:=⟨g,off+3,none⟩) (by show g<_;omega)).trans d3;(have hgp:g≠pb:=by omega))
  |((refine zf 25 rfl ?_)
    (refine zb (some 25) (.slice (some R) L (C-1)) rfl rfl (by rw[HR.out];exact VR _ _ rfl g off (L+1) C rfl rfl (by omega) _) ?_)))
 have hk:Kp pb w w1:=Kp.of hbw;refine JC rfl rfl (((hr4.other hz _).set4 _ _ _ _).alloc _) rfl ⟨rfl,?_,((((((hk.setP 0 _).setNew (Nat.le_refl _) _).setNew (Nat.le_refl _) _).setNew (Nat.le_refl _) _).setNew (Nat.le_refl _) _).alloc _)⟩;refine⟨some R,C-1,?_,by rw[←HL.out];omega,by omega,by rw[←HL.out];omega,λhne=>?_⟩
 ·rw[←HL.out]
  exact(((((hH1.putP 0 _).other hz' _).other hz' _).other hz' _).other hz' _).alloc _
 ·have hL0:L≠0:=by rw[HL.out];intro e;exact hne (List.length_eq_zero_iff.1 e)
  refine⟨g,off+4,by rw[HR.out,if_neg (by omega)],hg,(HT.out.tail).kp ((((((hk.setP 0 _).setNew (Nat.le_refl _) _).setNew (Nat.le_refl _) _).setNew (Nat.le_refl _) _).setNew (Nat.le_refl _) _).alloc _) hgp (by omega)⟩
theorem uD{w:World}{pb en:Nat}{ts:zo}(h:jF w pb ts en){v:Value}{p:Tk→Bool}(ha:Ja w pb v p)(hp:qz p ts=false):Calls Tryz.prog 130 #[.pointer (some ⟨pb,0,none⟩),v] w λe w'=>e= .panicked (flt 111 (yU en ts))∧Below w.heap.size w w':=by
 have hcm:=λo=>JK (h.below ((Below.refl w.heap.size w).alloc (Nat.le_refl _) o)) (ha.kp (Kp.of ((Below.refl w.heap.size w).alloc (Nat.le_refl _) o)))
 rw[hp]at hcm;have hpl:=λW (hW:Below w.heap.size w W)=>uu (h.below hW)
 have hv:∃fn fs cs,v= .func fn fs cs:=by cases ha<;>exact⟨_,_,_,rfl⟩
 obtain⟨fn,fs,cs,rfl⟩:=hv
 obtain⟨k,hk⟩:∃k,k=yU en ts:=⟨_,rfl⟩
 rw[←hk]at hpl ⊢;clear ha hp h hk;go_enter Tryz.func130,Tryz.ntmps130
 go_wp2_with (first
  |((go_at_call 135)
    refine(hcm _).mono ?_;rintro e w1 ⟨rfl,hb⟩;(have hbw:Below w.heap.size w w1:=((Below.refl _ _).alloc (Nat.le_refl _) _).trans (hb.mono (by simp))))
  |((go_at_call 148)
    refine(hpl _ hbw).mono ?_;rintro e w2 ⟨rfl,hw2⟩;(obtain rfl:w1=w2:=hw2.symm)))
 exact⟨rfl,rfl,hbw⟩
theorem vL(x:List UInt8)(w:World):Calls Tryz.prog 133 #[.string (bs x)] w λe w'=>e= .returned (.func (.func 151) #[] #[.pointer (some ⟨w.heap.size,0,none⟩)])∧w'=w.alloc (.cells #[.string (bs x)] 9):=by
 go_enter Tryz.func133,Tryz.ntmps133
 go_wp2
 go_ret
 exact⟨rfl,rfl⟩
theorem ZQ(k:Nat)(w:World):Calls Tryz.prog 132 #[.int .i64 (k:Nat)] w λe w'=>e= .returned (.func (.func 150) #[] #[.pointer (some ⟨w.heap.size,0,none⟩)])∧w'=w.alloc (.cells #[.int .i64 (k:Nat)] 98):=by
 go_enter Tryz.func132,Tryz.ntmps132
 go_wp2
 go_ret
 exact⟨rfl,rfl⟩
theorem qb(A:Option Addr)(L C:Nat)(w:World):Calls Tryz.prog 131 #[.slice A L C] w λe w'=>e= .returned (.func (.func 149) #[] #[.pointer (some ⟨w.heap.size,0,none⟩)])∧w'=w.alloc (.cells #[.slice A L C] 104):=by
 go_enter Tryz.func131,Tryz.ntmps131
 go_wp2
 go_ret
 exact⟨rfl,rfl⟩
def zR(n:Nd)(v:Value):Array Value:=#[.string (bs n.op),.string (bs n.s),.int .i64 n.n,.int .i64 n.a,v]
def JW(l:List Nd)(vs:List Value):List Value:=(l.zip vs).flatMap λx=>(zR x.1 x.2).toList
inductive jB (w:World) (P:Nat→Prop):List Nd→Value→Prop where
 |mk (l:List Nd) (vs:List Value) (v:Value):vs.length=l.length→w.ownsRow 0 24 5 v l.length (JW l vs)→(∀g,v.ownBlock=some g→P g) →
   (∀i (h:i<l.length) (h':i<vs.length),jB w P l[i].l vs[i])→jB w P l v
theorem jB.keep{w w':World}{P:Nat→Prop}{l:List Nd}{v:Value}(h:jB w P l v)(hk:∀g o,P g→w.heap[g]?=some o→w'.heap[g]?=some o):jB w' P l v:=by
 induction h with
 |mk l vs v h1 h2 h3 h4 ih=>exact .mk l vs v h1 (zI h2 (λg o e ho=>hk g o (h3 g e) ho)) h3 ih
theorem jB.mono{w:World}{P Q:Nat→Prop}{l:List Nd}{v:Value}(h:jB w P l v)(hk:∀g,P g→Q g):jB w Q l v:=by
 induction h with
 |mk l vs v h1 h2 h3 h4 ih=>exact .mk l vs v h1 h2 (λg e=>hk g (h3 g e)) ih
theorem jB.imp{w:World}{P Q:Nat→Prop}{l:List Nd}{v:Value}(h:jB w P l v)(hk:∀g,P g→g<w.heap.size→Q g):jB w Q l v:=by
 induction h with
 |mk l vs v h1 h2 h3 h4 ih=>exact .mk l vs v h1 h2 (λg e=>hk g (h3 g e) (qy h2 e).1) ih
theorem jB.grow{w w':World}{P:Nat→Prop}{l:List Nd}{v:Value}(h:jB w P l v)(hb:Below w.heap.size w w'):jB w' P l v:=
 h.keep λg o _ ho=>(hb.block g (Array.getElem?_eq_some_iff.1 ho).1).trans ho
theorem jB.kp{w w':World}{P:Nat→Prop}{l:List Nd}{v:Value}{p:Nat}(h:jB w P l v)(hb:Kp p w w')(hp:∀g,P g→g≠p):jB w' P l v:=
 h.keep λg o hg ho=>(hb.block g (Array.getElem?_eq_some_iff.1 ho).1 (λe=>hp g hg (by cases e;rfl))).trans ho
theorem jB.nil(w:World)(P:Nat→Prop):jB w P [] (.slice none 0 0):= .mk [] [] _ rfl ⟨rfl,.inl ⟨rfl,rfl⟩⟩ (λg e=>by cases e) (λi h=>by simp at h)
theorem jB.slice{w:World}{P:Nat→Prop}{l:List Nd}{v:Value}(h:jB w P l v):∃A C,v= .slice A l.length C:=by
 cases h with
 |mk l vs v h1 h2 h3 h4 =>
  rcases h2.2 with⟨rfl,h0⟩|⟨g,cap,cur,rfl,_⟩
  ·exact⟨none,0,by rw[h0]⟩
  ·exact⟨_,_,rfl⟩
theorem Vp(n:Nd)(l:List Nd)(v:Value)(vs:List Value):JW (n::l) (v::vs)=(zR n v).toList++JW l vs:=by simp[JW]
theorem JZ(l m:List Nd)(vs us:List Value)(h:vs.length=l.length):JW (l++m) (vs++us)=JW l vs++JW m us:=by
 unfold JW;rw[List.zip_append h.symm,List.flatMap_append]
theorem Xo(n:Nd)(v:Value):JW [n] [v]=(zR n v).toList:=by simp[JW]
theorem dy(l:List Nd):∀(vs:List Value) (i:Nat) (h:i<l.length) (h':i<vs.length) (j:Nat),j<5→(JW l vs)[i*5+j]?=(zR l[i] vs[i])[j]?:=by
 induction l with
 |nil=>intro vs i h;simp at h
 |cons n l ih =>
  intro vs i h h' j hj;cases vs with
  |nil=>simp at h'
  |cons v vs =>
   rw[Vp];have e5:(zR n v).toList.length=5:=rfl;cases i with
   |zero=>rw[List.getElem?_append_left (by rw[e5];omega)];simp
   |succ i =>
    simp only[List.length_cons]at h h';rw[List.getElem?_append_right (by rw[e5];omega),e5,show(i+1)*5+j-5=i*5+j by omega,ih vs i (by omega) (by omega) j hj];simp
theorem Yz(n:Nd)(A:Option Addr)(L C:Nat):∀u ∈ (zR n (.slice A L C)).toList,u.oneCell'=true:=by
 intro u hu;simp[zR]at hu;rcases hu with rfl|rfl|rfl|rfl|rfl<;>rfl
def vl(w:World)(base:Nat)(l:List Nd)(v:Value):Prop:=∃vs,vs.length=l.length∧w.ownsRow base 24 5 v l.length (JW l vs)∧∀i (h:i<l.length) (h':i<vs.length),jB w (λg=>base≤g∧v.ownBlock≠some g) l[i].l vs[i]
theorem vl.nil(w:World)(base:Nat):vl w base [] (.slice none 0 0):=⟨[],rfl,⟨rfl,.inl ⟨rfl,rfl⟩⟩,λi h=>by simp at h⟩
theorem vl.done{w:World}{base:Nat}{l:List Nd}{v:Value}(h:vl w base l v):jB w (λg=>base≤g) l v:=by
 obtain⟨vs,h1,h2,h3⟩:=h;refine .mk l vs v h1 ⟨h2.1,?_⟩ (λg e=>(qy h2 e).2) (λi h h'=>(h3 i h h').mono λg hg=>hg.1);rcases h2.2 with h0|⟨g,cap,cur,hv,hb,r⟩
 ·exact .inl h0
 ·exact .inr ⟨g,cap,cur,hv,Nat.zero_le _,r⟩
theorem vl.slice{w:World}{base:Nat}{l:List Nd}{v:Value}(h:vl w base l v):∃A C,v= .slice A l.length C:=h.done.slice
theorem vl.kp{w w':World}{base p:Nat}{l:List Nd}{v:Value}(h:vl w base l v)(hk:Kp p w w')(hp:p<base):vl w' base l v:=by
 obtain⟨vs,h1,h2,h3⟩:=h;exact⟨vs,h1,zI h2 (λg o e ho=>(hk.block g (qy h2 e).1 (λe'=>by have:=(qy h2 e).2;cases e';omega)).trans ho),λi h h'=>(h3 i h h').kp hk (λg hg=>by omega)⟩
theorem Tryz.infoNode:(Tryz.prog.info? 24).map (λi=>(i.zero,i.size,i.bytes))=some (some (.agg #[.string ⟨#[]⟩,.string ⟨#[]⟩,.int .i64 0,.int .i64 0,.slice none 0 0]),5,72):=by kernel_rfl
theorem Zo{P:Program}{w:World}{base:Nat}{t ty e:TypeId}{i:TypeInfo}{z:Value}{size:Nat}(ht:P.underlying t=some (.slice e))(hi:P.info? e=some i)(hz:i.zero=some z)(hsize:i.size=size)(hsz:0<size)
 {v:Value} {n:Nat} {xs:List Value} (hown:w.ownsRow base e size v n xs) {ad:Addr} {m c:Nat} {news:List Value} (hl:news.length=m*size) (hnews:∀j u,news[j]?=some u→w.cell? (ad.add j)=some u) (h1:∀u ∈ news,u.oneCell'=true)
 (h63:n+m≤maxLen) (hbytes:(n+m)*i.bytes≤140737488355328) (hm:0<m) {v':Value} {w':World} (hr:(Builtin.append_ #[t,t] ty #[v,.slice (some ad) m c]).run P w= .ok v' w'):v'.ownBlock=v.ownBlock∨v'.ownBlock=some w.heap.size:=by
 subst hsize;have hsmall:n+m≤9223372036854775807:=by simp only[maxLen]at h63;omega
 rcases hown.2 with⟨rfl,rfl⟩|⟨g,cap,cur,rfl,hbg,hg,hnc,hcm,hcs,htake⟩
 ·have hr2:=run_append_nil (P:=P) w t ty e i z ht hi hz ad m c news hl hnews (by omega) (by omega) (by have hb:=hbytes;simp only[Nat.zero_add]at hb;omega)
  rw[hr2]at hr;cases hr;exact .inr rfl
 ·by_cases hroom:n+m≤cap
  ·have hfit:n*i.size+news.length≤cur.size:=by rw[hl,hcs,←Nat.add_mul];exact Nat.mul_le_mul_right _ hroom
   have hr2:=run_append_room (P:=P) w t ty e i ht hi g n cap cur hg ad m c news hl hnews h1 hroom hfit;rw[hr2]at hr;cases hr;exact .inl rfl
  ·have holds:∀j u,xs[j]?=some u→w.cell? ((⟨g,0,none⟩:Addr).add j)=some u:=hown.cells (g:=g) rfl
   have hr2:=run_append_grow (P:=P) w t ty e i z ht hi hz ⟨g,0,none⟩ n cap xs hown.1 holds ad m c news hl hnews (by omega) (by omega) (growslice_fits (by omega) hbytes);rw[hr2]at hr;cases hr;exact .inr rfl
theorem Zr{ty:TypeId}(w:World)(base:Nat)(l:List Nd)(v:Value)(hrow:vl w base l v)(hbase:base≤w.heap.size)(hlen:l.length≤1000)(n:Nd)(A:Option Addr)(L C:Nat)(hn:jB w (λg=>base≤g∧v.ownBlock≠some g) n.l (.slice A L C))(G:Nat)(hG:ze w G 24 (zR n (.slice A L C))):
 ∃v' w',(Builtin.append_ #[22,22] ty #[v,.slice (some ⟨G,0,none⟩) 1 1]).run Tryz.prog w= .ok v' w'∧vl w' base (l++ [n]) v'∧Below base w w'∧w.grownBy w' v.ownBlock:=by
 obtain⟨i0,hi,hz0,hz1,hz2⟩:=info_parts Tryz.infoNode;obtain⟨vs,e1,hown,hk⟩:=hrow
 have hnews:∀j u,(zR n (.slice A L C)).toList[j]?=some u→w.cell? ((⟨G,0,none⟩:Addr).add j)=some u:=by
  intro j u hj;have:=hG.cell j;rw[show(⟨G,0,none⟩:Addr).add j=⟨G,j,none⟩ by simp[Addr.add];omega];rw[this]
  simpa using hj
 obtain⟨v',w',hr,h2,h3,h4⟩:=run_append_own (P:=Tryz.prog) w base 22 ty 24 i0 _ 5 72 Tryz.underlying22 hi hz0 hz1 hz2 rfl (by decide) v l.length (JW l vs) hown ⟨G,0,none⟩ 1 1 (zR n (.slice A L C)).toList rfl hnews (Yz n A L C) (by unfold maxLen;omega) (by omega) hbase;have hwh:=Zo (P:=Tryz.prog) Tryz.underlying22 hi hz0 hz1 (by decide) hown (ad:=⟨G,0,none⟩) (m:=1) (c:=1) (news:=(zR n (.slice A L C)).toList) rfl hnews (Yz n A L C) (by unfold maxLen;omega) (by rw[hz2];omega) (by decide) hr;refine⟨v',w',hr,?_,Z6 hown h3 hbase,h3⟩
 have keep:∀ {l':List Nd} {x:Value},jB w (λg=>base≤g∧v.ownBlock≠some g) l' x→jB w' (λg=>base≤g∧v'.ownBlock≠some g) l' x:=by
  intro l' x h
  have h5:jB w (λg=>(base≤g∧v.ownBlock≠some g)∧v'.ownBlock≠some g) l' x:=h.imp λg hg hlt=>⟨hg,by
   rcases hwh with e|e
   ·rw[e];exact hg.2
   ·rw[e];intro e';cases e';omega⟩
  exact(h5.keep (w':=w') λg o hg ho=>(h3.block g (Array.getElem?_eq_some_iff.1 ho).1 (λe=>hg.1.2 e.symm)).trans ho).mono λg hg=>⟨hg.1.1,hg.2⟩
 refine⟨vs++ [.slice A L C],by simp[e1],?_,?_⟩
 ·rw[JZ l [n] vs _ e1,Xo,List.length_append]
  exact h2
 ·intro i h h'
  by_cases hi:i<l.length
  ·rw[List.getElem_append_left hi,List.getElem_append_left (by omega)]
   exact keep (hk i hi (by omega))
  ·have :i=l.length:=by simp at h;omega
   subst this;simp only[List.getElem_append_right (Nat.le_refl _),Nat.sub_self,List.getElem_cons_zero];have e2:(vs++ [Value.slice A L C])[l.length]'h'= .slice A L C:=by rw[List.getElem_append_right (by omega)];simp[e1]
   rw[e2];exact keep hn
theorem vW{ops:Array Oper}{rest:List Oper}{o:Oper}{a:Act}{w:World}{Q:Exit→Act→World→Prop}(hgd:o.guard=none)(s x:Operand)
 (ho:o.op= .call { callee:= .builtin .append,args:=#[s,x],argTypes:=#[22,22] }) (base:Nat) (l:List Nd) (v:Value) (hs:a.eval s=v) (hrow:vl w base l v) (hbase:base≤w.heap.size) (hlen:l.length≤1000)
 (n:Nd) (A:Option Addr) (L C:Nat) (hn:jB w (λg=>base≤g∧v.ownBlock≠some g) n.l (.slice A L C)) (G:Nat) (hx:a.eval x= .slice (some ⟨G,0,none⟩) 1 1) (hG:ze w G 24 (zR n (.slice A L C)))
 (h:∀v' w',vl w' base (l++ [n]) v'→Below base w w'→w.grownBy w' v.ownBlock→wpList Tryz.prog ops Q rest (a.put o.dst v') w'):wpList Tryz.prog ops Q (o::rest) a w:=by
 obtain⟨v',w',hr,h2,h3,h4⟩:=Zr (ty:=o.type) w base l v hrow hbase hlen n A L C hn G hG;refine wpList_plain hgd λK hK=>?_
 unfold Oper.wp execOp;simp only[ho,resolve,invoke,builtin,Sem.run_bind,Sem.run_pure,Result.andThen_ok,List.map_toArray,List.map_cons,List.map_nil,hs,hx,hr];exact hK _ _ (h v' w' h2 h3 h4)
theorem vl.ne{w:World}{base:Nat}{l:List Nd}{v:Value}(h:vl w base l v){q t:Nat}{cs:Array Value}(hq:ze w q t cs)(ht:t≠24):v.ownBlock≠some q:=by
 obtain⟨vs,h1,h2,h3⟩:=h;rcases h2.2 with⟨rfl,_⟩|⟨g,cap,cur,rfl,_,hg,_⟩
 ·intro e;cases e
 ·intro e
  have e':g=q:=by cases e;rfl
  subst e';have hq':w.heap[g]?=some (.cells cs t (0,0)):=hq;rw[hg]at hq';cases hq';exact ht rfl
theorem ze.ne{w:World}{g q t u:Nat}{cs ds:Array Value}(h:ze w g t cs)(k:ze w q u ds)(ht:t≠u):g≠q:=by
 rintro rfl;have h':w.heap[g]?=some (.cells cs t (0,0)):=h;have k':w.heap[g]?=some (.cells ds u (0,0)):=k;rw[h']at k';cases k';exact ht rfl
theorem vl.lt{w:World}{base:Nat}{l:List Nd}{v:Value}(h:vl w base l v){g:Nat}(e:v.ownBlock=some g):g<w.heap.size:=by
 obtain⟨vs,h1,h2,h3⟩:=h;exact(qy h2 e).1
theorem Qv{wr w5:World}{base pb:Nat}{l:List Nd}{v:Value}{n:Nd}{A:Option Addr}{L C:Nat}(row:vl wr base l v)(hk:Kp pb wr w5)(hpb:pb<base)(hbase:base≤wr.heap.size)(hn:jB w5 (λg=>wr.heap.size≤g) n.l (.slice A L C))(o:Obj):
 vl (w5.alloc o) base l v∧jB (w5.alloc o) (λg=>base≤g∧v.ownBlock≠some g) n.l (.slice A L C)∧base≤(w5.alloc o).heap.size:=by
 have hz:=hk.size;have hz2:(w5.alloc o).heap.size=w5.heap.size+1:=by simp
 refine⟨(row.kp hk hpb).kp (Kp.of ((Below.refl _ _).alloc (Nat.le_refl _) o)) hpb,(hn.mono λg hg=>⟨by omega,?_⟩).grow ((Below.refl _ _).alloc (Nat.le_refl _) o),by omega⟩;intro e;have:=row.lt e;omega
theorem jB.single{W:World}{P:Nat→Prop}{n:Nd}{v:Value}{G:Nat}(hG:ze W G 24 (zR n v))(hP:P G)(hn:jB W P n.l v):jB W P [n] (.slice (some ⟨G,0,none⟩) 1 1):=by
 refine .mk [n] [v] _ rfl ⟨by rw[Xo];rfl,.inr ⟨G,1,_,rfl,Nat.zero_le _,hG,Nat.le_refl _,by decide,rfl,?_⟩⟩ (λg e=>by cases e;exact hP) (λi h h'=>?_)
 ·rw[Xo];rfl
 ·have :i=0:=by simp at h;omega
  subst this;exact hn
theorem QO{p:Nat}{w1 W W':World}(h:Kp p w1 W)(hb:Below w1.heap.size W W'):Kp p w1 W':=
 ⟨hb.os.trans h.os,hb.tape.trans h.tape,hb.output.trans h.output,Nat.le_trans h.size hb.size,λk hk hn=>(hb.block k hk).trans (h.block k hk hn)⟩
structure zF (w:World) (rb:Nat) (A:Option Addr) (C:Nat) (ts:zo) (i en:Nat) (bad k:Int):Prop where
 has:ze w rb 61 #[.slice A ts.length C,.int .i64 (i:Nat),.int .i64 (en:Nat),.int .i64 bad,.int .i64 k]
 tok:∀j,j<ts.length→∃g off,A=some ⟨g,off,none⟩∧g<w.heap.size∧g≠rb∧Y9 w g off ts
 le:i≤ts.length
 few:ts.length≤500
 end':en≤2000
theorem gW{ts:zo}{i en:Nat}(h:¬i<ts.length):yU en (ts.drop i)=en:=by
 rw[List.drop_eq_nil_of_le (by omega)];rfl
theorem jL{ts:zo}{i en:Nat}(h:i<ts.length):yU en (ts.drop i)=ts[i].2:=by
 rw[List.drop_eq_getElem_cons h];rfl
theorem jv{w:World}{rb:Nat}{A:Option Addr}{C:Nat}{ts:zo}{i en:Nat}{bad k:Int}(h:zF w rb A C ts i en bad k):Calls Tryz.prog 42 #[.pointer (some ⟨rb,0,none⟩)] w λe w'=>e= .returned (.int .i64 (yU en (ts.drop i):Nat))∧∃q,w'=w.drewN q:=by
 have c0:=h.has.cell 0;have c1:=h.has.cell 1;have c2:=h.has.cell 2;simp only[jg,jd,jf]at c0 c1 c2;have hlt:=h.has.lt;have hf:=h.few;have hle:=h.le;by_cases hi:i<ts.length
 ·obtain⟨g,off,rfl,hg,hne,htk⟩:=h.tok i hi
  rw[jL hi];have t3:=htk i hi 3 (by decide);generalize ts[i]=t at t3 ⊢;generalize ts.length=L at *;have hii:(i:Int)<(L:Int):=by omega
  obtain⟨⟨tk,tss,tn⟩,ta⟩:=t;simp only[qt,List.getElem?_toArray,List.getElem?_cons_zero,List.getElem?_cons_succ]at t3;clear h htk;go_enter Tryz.func42,Tryz.ntmps42
  go_wp2
  go_quiet (fail)
  go_wp2
  go_quiet (fail)
  go_wp2
  go_ret
  exact⟨rfl,_,World.drewN_drewN _ _ _⟩
 ·rw[gW hi]
  generalize ts.length=L at *;have hii:¬(i:Int)<(L:Int):=by omega
  clear h;go_enter Tryz.func42,Tryz.ntmps42
  go_wp2
  go_quiet (fail)
  go_wp2
  go_ret
  exact⟨rfl,_,rfl⟩
def uK(ts:zo)(i:Nat)(s:List UInt8):Bool:=match ts[i]? with
 |none=>false
 |some t=>(t.1.kind==0||t.1.kind==3)&&t.1.s==s
theorem zbr{w:World}{rb:Nat}{A:Option Addr}{C:Nat}{ts:zo}{i en:Nat}{k:Int}(h:zF w rb A C ts i en 0 k)(s:List UInt8):Calls Tryz.prog 43 #[.pointer (some ⟨rb,0,none⟩),.string (bs s)] w λe w'=>e= .returned (.bool (uK ts i s))∧∃q,w'=w.drewN q:=by
 have c0:=h.has.cell 0;have c1:=h.has.cell 1;have c3:=h.has.cell 3;simp only[jg,jd,jf]at c0 c1 c3;have hlt:=h.has.lt;have hf:=h.few;have hle:=h.le;unfold uK;by_cases hi:i<ts.length
 ·obtain⟨g,off,rfl,hg,hne,htk⟩:=h.tok i hi
  rw[List.getElem?_eq_getElem hi];have t0:=htk i hi 0 (by decide);have t1:=htk i hi 1 (by decide);generalize ts[i]=t at t0 t1 ⊢;generalize ts.length=L at *;have hii:(i:Int)<(L:Int):=by omega
  obtain⟨⟨tk,tss,tn⟩,ta⟩:=t;simp only[qt,List.getElem?_toArray,List.getElem?_cons_zero,List.getElem?_cons_succ]at t0 t1 ⊢;have hx:=zx tss;have hy:=zx s;rw[Nat.add_zero]at t0;clear h htk;by_cases k0:tk=0
  ·have k1:((tk:Nat):Int)=0:=by omega
   cases hc:(tss==s)
   all_goals
    go_enter Tryz.func43,Tryz.ntmps43
    go_wp2
    go_quiet (fail)
    go_wp2
    go_ret
    exact⟨by simp[k0],_,rfl⟩
  ·have k1:¬((tk:Nat):Int)=0:=by omega
   by_cases k3:tk=3
   ·have k4:((tk:Nat):Int)=3:=by omega
    cases hc:(tss==s)
    all_goals
     go_enter Tryz.func43,Tryz.ntmps43
     go_wp2
     go_quiet (fail)
     go_wp2
     go_ret
     exact⟨by simp[k3],_,rfl⟩
   ·have k4:¬((tk:Nat):Int)=3:=by omega
    go_enter Tryz.func43,Tryz.ntmps43
    go_wp2
    go_quiet (fail)
    go_wp2
    go_ret
    exact⟨by simp[k0,k3],_,rfl⟩
 ·rw[List.getElem?_eq_none (by omega)]
  generalize ts.length=L at *;have hii:¬(i:Int)<(L:Int):=by omega
  clear h;go_enter Tryz.func43,Tryz.ntmps43
  go_wp2
  go_quiet (fail)
  go_wp2
  go_ret
  exact⟨rfl,_,rfl⟩
end
section
def zX{α:Type}(bad:Int)(R:PR α)(ts:zo)(x:α)(i':Nat)(bad':Int):Prop:=
 if bad=0 then(match R with
  | .ok (y,r)=>x=y∧ts.drop i'=r∧bad'=0
  | .error _=>bad'≠0)else bad'≠0
theorem zX.bind{α β:Type}{P:jk α}{f:α→jk β}{en:Nat}{ts:zo}{bad bad1 bad2:Int}{i i1 i2:Nat}{x:α}{y:β}(h1:zX bad (P en (ts.drop i)) ts x i1 bad1)(h2:zX bad1 (f x en (ts.drop i1)) ts y i2 bad2):zX bad (zt P f en (ts.drop i)) ts y i2 bad2:=by
 unfold zX at *;unfold zt;by_cases hb:bad=0
 ·rw[if_pos hb]at h1 ⊢
  cases hP:P en (ts.drop i)with
  |error e =>
   rw[hP]at h1;simp only at h1 ⊢;rw[if_neg h1]at h2;exact h2
  |ok r =>
   obtain⟨y',r⟩:=r;rw[hP]at h1;obtain⟨rfl,e2,e3⟩:=h1;rw[if_pos e3,e2]at h2;exact h2
 ·rw[if_neg hb]at h1 ⊢
  rw[if_neg h1]at h2;exact h2
theorem zX.ret{α:Type}(bad:Int)(x:α)(en:Nat)(ts:zo)(i:Nat):zX bad (qT x en (ts.drop i)) ts x i bad:=by
 unfold zX qT;by_cases hb:bad=0
 ·rw[if_pos hb];exact⟨rfl,rfl,hb⟩
 ·rw[if_neg hb];exact hb
theorem zX.map{α β:Type}{P:jk α}(f:α→β){en:Nat}{ts:zo}{bad bad1:Int}{i i1:Nat}{x:α}(h1:zX bad (P en (ts.drop i)) ts x i1 bad1):zX bad (zt P (λx=>qT (f x)) en (ts.drop i)) ts (f x) i1 bad1:=h1.bind (zX.ret bad1 (f x) en ts i1)
theorem zX.bad{α:Type}{bad bad':Int}(h:bad≠0)(h':bad'≠0)(R:PR α)(ts:zo)(x:α)(i':Nat):zX bad R ts x i' bad':=by
 unfold zX;rw[if_neg h];exact h'
theorem zX.err{α:Type}{bad bad':Int}{R:PR α}{e:Nat×Nat}(hR:R= .error e)(h':bad'≠0)(ts:zo)(x:α)(i':Nat):zX bad R ts x i' bad':=by
 unfold zX;rw[hR];by_cases h:bad=0
 ·rw[if_pos h];exact h'
 ·rw[if_neg h];exact h'
theorem zX.ok{α:Type}{R:PR α}{ts:zo}{x:α}{i':Nat}(hR:R= .ok (x,ts.drop i')):zX 0 R ts x i' 0:=by
 unfold zX;rw[hR,if_pos rfl];exact⟨rfl,rfl,rfl⟩
theorem zX.stays{α:Type}{bad bad':Int}{R:PR α}{ts:zo}{x:α}{i':Nat}(h:zX bad R ts x i' bad')(hb:bad≠0):bad'≠0:=by
 unfold zX at h;rw[if_neg hb]at h;exact h
theorem zX.was{α:Type}{bad bad':Int}{R:PR α}{ts:zo}{x:α}{i':Nat}(h:zX bad R ts x i' bad')(hb:bad'=0):bad=0∧R= .ok (x,ts.drop i'):=by
 by_cases e:bad=0
 ·refine⟨e,?_⟩
  unfold zX at h;rw[if_pos e]at h;cases R with
  |error e=>exact absurd hb h
  |ok r =>
   obtain⟨y,r⟩:=r;obtain⟨rfl,rfl,_⟩:=h;rfl
 ·exact absurd hb (h.stays e)
theorem Z2{p:Tk→Bool}{en:Nat}{ts:zo}{i:Nat}(hi:i<ts.length)(hp:p ts[i].1=true):zX 0 (zn p en (ts.drop i)) ts ts[i] (i+1) 0:=by
 apply zX.ok;rw[List.drop_eq_getElem_cons hi];simp only[zn];rw[if_pos hp]
theorem Z5{p:Tk→Bool}{en:Nat}{ts:zo}{i:Nat}{bad bad':Int}(h:bad≠0∨qz p (ts.drop i)=false)(h':bad'≠0)(x:Tk×Nat)(i':Nat):zX bad (zn p en (ts.drop i)) ts x i' bad':=by
 rcases h with h|h
 ·exact zX.bad h h' _ _ _ _
 ·cases hd:ts.drop i with
  |nil=>exact zX.err (e:=(111,en)) rfl h' _ _ _
  |cons t r =>
   rw[hd]at h;refine zX.err (e:=(111,t.2)) ?_ h' _ _ _;simp only[zn];rw[if_neg (by simpa [qz]using h)]
theorem qu{p:Tk→Bool}{ts:zo}{i:Nat}(hi:i<ts.length):qz p (ts.drop i)=p ts[i].1:=by
 rw[List.drop_eq_getElem_cons hi];rfl
theorem v8{p:Tk→Bool}{ts:zo}{i:Nat}(hi:¬i<ts.length):qz p (ts.drop i)=false:=by
 rw[List.drop_eq_nil_of_le (by omega)];rfl
def ZP(pe:jk Nd)(en:Nat)(ts:zo)(bad0:Int)(i0:Nat)(l:List Nd)(i:Nat)(bad:Int):Prop:=
 ∀(m:List Nd) (i':Nat) (bad':Int),(∀F,ts.length-i<F→zX bad (jY pe F en (ts.drop i)) ts m i' bad')→∀F,ts.length-i0<F→zX bad0 (jY pe F en (ts.drop i0)) ts (l++m) i' bad'
theorem ZP.start(pe:jk Nd)(en:Nat)(ts:zo)(bad0:Int)(i0:Nat):ZP pe en ts bad0 i0 [] i0 bad0:=λm i' bad' h F hF=>h F hF
theorem ZP.next{pe:jk Nd}{en:Nat}{ts:zo}{bad0:Int}{i0:Nat}{l:List Nd}{i:Nat}(h:ZP pe en ts bad0 i0 l i 0)(hi:i<ts.length)(hc:QR ts[i].1=true){x:Nd}{i2:Nat}{bad2:Int}(hx:zX 0 (pe en (ts.drop (i+1))) ts x i2 bad2)(hle:i+1≤i2):ZP pe en ts bad0 i0 (l++ [x]) i2 bad2:=by
 intro m i' bad' hm F hF;rw[List.append_assoc];refine h ([x]++m) i' bad' (λF' hF'=>?_) F hF
 obtain⟨F1,rfl⟩:∃F1,F'=F1+1:=⟨F'-1,by omega⟩
 show zX 0 (QS QR _ _ en (ts.drop i)) ts _ i' bad';unfold QS;rw[if_pos (by rw[qu hi];exact hc)];exact(Z2 hi hc).bind (hx.bind ((hm F1 (by omega)).map (λl=>x::l)))
theorem ZP.stop{pe:jk Nd}{en:Nat}{ts:zo}{bad0:Int}{i0:Nat}{l:List Nd}{i:Nat}{bad:Int}(h:ZP pe en ts bad0 i0 l i bad)(hc:bad≠0∨qz QR (ts.drop i)=false)(F:Nat)(hF:ts.length-i0<F):zX bad0 (jY pe F en (ts.drop i0)) ts l i bad:=by
 have:=h [] i bad (λF' hF'=>?_) F hF
 ·simpa using this
 ·rcases hc with hc|hc
  ·exact zX.bad hc hc _ _ _ _
  ·obtain⟨F1,rfl⟩:∃F1,F'=F1+1:=⟨F'-1,by omega⟩
   show zX bad (QS QR _ _ en (ts.drop i)) ts _ i bad;unfold QS;rw[if_neg (by rw[hc];decide)];exact zX.ret bad [] en ts i
def Qy(en:Nat)(ts:zo)(l:List Nd)(i:Nat)(bad:Int):Prop:=
 ∀(m:List Nd) (i':Nat) (bad':Int),(∀F,ts.length-i<F→zX bad (qA F en (ts.drop i)) ts m i' bad')→∀F,ts.length<F→zX 0 (qA F en ts) ts (l++m) i' bad'
theorem Qy.start(en:Nat)(ts:zo):Qy en ts [] 0 0:=λm i' bad' h F hF=>by simpa using h F (by simpa using hF)
theorem Qy.next{en:Nat}{ts:zo}{l:List Nd}{i:Nat}(h:Qy en ts l i 0)(hi:i<ts.length){x:Nd}{i2:Nat}{bad2:Int}(hx:zX 0 (qi en (ts.drop i)) ts x i2 bad2)(hle:bad2=0→i+1≤i2):Qy en ts (l++ [x]) i2 bad2:=by
 intro m i' bad' hm F hF;rw[List.append_assoc];refine h ([x]++m) i' bad' (λF' hF'=>?_) F hF
 obtain⟨F1,rfl⟩:∃F1,F'=F1+1:=⟨F'-1,by omega⟩
 have e:qA (F1+1) en (ts.drop i)=(zt qi λn=>zt (qA F1) λl=>qT (n::l)) en (ts.drop i):=by
  rw[List.drop_eq_getElem_cons hi];rfl
 rw[e];by_cases hb:bad2=0
 ·exact hx.bind ((hm F1 (by have:=hle hb;omega)).map (λl=>x::l))
 ·have hb':bad'≠0:=by
   have:=hm (ts.length+1) (by omega);exact this.stays hb
  exact hx.bind (zX.bad hb hb' _ _ _ _)
theorem Qy.stop{en:Nat}{ts:zo}{l:List Nd}{i:Nat}{bad:Int}(h:Qy en ts l i bad)(hc:bad≠0∨¬i<ts.length):zX 0 (qA 501 en ts) ts l i bad∨500<ts.length:=by
 by_cases hl:500<ts.length
 ·exact .inr hl
 ·refine .inl ?_
  have:=h [] i bad (λF' hF'=>?_) 501 (by omega)
  ·simpa using this
  ·rcases hc with hc|hc
   ·exact zX.bad hc hc _ _ _ _
   ·obtain⟨F1,rfl⟩:∃F1,F'=F1+1:=⟨F'-1,by omega⟩
    rw[List.drop_eq_nil_of_le (by omega)];unfold zX;by_cases hb:bad=0
    ·rw[if_pos hb]
     exact⟨rfl,List.drop_eq_nil_of_le (by omega),hb⟩
    ·rw[if_neg hb];exact hb
end
section
open Go.ChangeShapes Go.WideShapes Go.ChangeAt Go.RowKit
theorem DN{w:World}{rb:Nat}{A:Option Addr}{C:Nat}{ts:zo}{i en:Nat}{bad k:Int}(h:zF w rb A C ts i en bad k)(hb:bad≠0)(s:List UInt8):Calls Tryz.prog 43 #[.pointer (some ⟨rb,0,none⟩),.string (bs s)] w λe w'=>e= .returned (.bool false)∧∃q,w'=w.drewN q:=by
 have c0:=h.has.cell 0;have c1:=h.has.cell 1;have c3:=h.has.cell 3;simp only[jg,jd,jf]at c0 c1 c3;have hlt:=h.has.lt;generalize ts.length=L at *;have hd:decide (bad=0)=false:=decide_eq_false hb;have hd2:(bad==0)=false:=by simpa using hb
 clear h;go_enter Tryz.func43,Tryz.ntmps43
 go_wp2
 go_quiet (fail)
 go_wp2
 go_ret
 exact⟨rfl,_,rfl⟩
theorem zF.set{w w':World}{rb:Nat}{A:Option Addr}{C:Nat}{ts:zo}{i i' en:Nat}{bad k bad' k':Int}(h:zF w rb A C ts i en bad k)(hk:Kp rb w w')(hh:ze w' rb 61 #[.slice A ts.length C,.int .i64 (i':Nat),.int .i64 (en:Nat),.int .i64 bad',.int .i64 k'])(hi:i'≤ts.length):zF w' rb A C ts i' en bad' k':=
 ⟨hh,λj hj=>by
   obtain⟨g,off,e,hg,hne,ht⟩:=h.tok j hj
   exact⟨g,off,e,Nat.lt_of_lt_of_le hg hk.size,hne,ht.kp hk hne hg⟩,hi,h.few,h.end'⟩
theorem Kp.refl'(p:Nat)(w:World):Kp p w w:=Kp.of (Below.refl _ _)
theorem zF.drewN{w:World}{rb:Nat}{A:Option Addr}{C:Nat}{ts:zo}{i en:Nat}{bad k:Int}(h:zF w rb A C ts i en bad k)(q:Nat):zF (w.drewN q) rb A C ts i en bad k:=⟨h.has,h.tok,h.le,h.few,h.end'⟩
theorem Kp.drewN{p:Nat}{w w':World}(h:Kp p w w')(q:Nat):Kp p w (w'.drewN q):=⟨h.os,h.tape,h.output,h.size,h.block⟩
theorem zF.kp{w w':World}{rb:Nat}{A:Option Addr}{C:Nat}{ts:zo}{i en:Nat}{bad k:Int}(h:zF w rb A C ts i en bad k)(hb:Below w.heap.size w w'):zF w' rb A C ts i en bad k:=h.set (Kp.of hb) (h.has.below hb h.has.lt) h.le
theorem QP{w:World}{rb:Nat}{A:Option Addr}{C:Nat}{ts:zo}{i en:Nat}{bad k:Int}(h:zF w rb A C ts i en bad k)(er:Int)(her:er≠0):Calls Tryz.prog 44 #[.pointer (some ⟨rb,0,none⟩),.int .i64 er] w λe w'=>e= .returned (.tuple #[])∧∃bad' k',bad'≠0∧zF w' rb A C ts i en bad' k'∧Kp rb w w':=by
 have c3:=h.has.cell 3;have c4:=h.has.cell 4;simp only[jg,jd,jf]at c3 c4;have hlt:=h.has.lt;have f3:=h.has.free 3;have f4:=h.has.free 4;by_cases hb:bad=0
 ·subst hb
  have hw1:Kp rb w (w.setCell ⟨rb,3,none⟩ (.int .i64 er)):=(Kp.refl' rb w).setP 3 _;have h1:zF (w.setCell ⟨rb,3,none⟩ (.int .i64 er)) rb A C ts i en er k:=h.set hw1 (h.has.putP 3 _) h.le;go_enter Tryz.func44,Tryz.ntmps44
  go_wp2_with (first
   |((go_at_call 42)
     refine(jv h1).mono ?_;(rintro e w1 ⟨rfl,q,rfl⟩)))
  go_end0
  exact⟨rfl,er,_,her,(h1.drewN q).set ((Kp.refl' rb _).setP 4 _) ((h1.drewN q).has.putP 4 _) h.le,(hw1.drewN q).setP 4 _⟩
 ·have hd:decide (bad=0)=false:=decide_eq_false hb
  go_enter Tryz.func44,Tryz.ntmps44
  go_wp2
  go_end0
  exact⟨rfl,bad,k,hb,h,Kp.refl' _ _⟩
def qX(w:World)(rb:Nat)(A:Option Addr)(C:Nat)(ts:zo)(i en:Nat)(w':World)(i':Nat)(bad':Int):Prop:=i≤i'∧i'≤ts.length∧Kp rb w w'∧∃k',ze w' rb 61 #[.slice A ts.length C,.int .i64 (i':Nat),.int .i64 (en:Nat),.int .i64 bad',.int .i64 k']
theorem qX.at{w w':World}{rb:Nat}{A:Option Addr}{C:Nat}{ts:zo}{i i' en:Nat}{bad k bad':Int}(h:zF w rb A C ts i en bad k)(s:qX w rb A C ts i en w' i' bad'):∃k',zF w' rb A C ts i' en bad' k':=by
 obtain⟨_,h2,h3,k',h4⟩:=s;exact⟨k',h.set h3 h4 h2⟩
theorem qX.of{w w':World}{rb:Nat}{A:Option Addr}{C:Nat}{ts:zo}{i i' en:Nat}{bad' k':Int}(hi:i≤i')(hk:Kp rb w w')(h:zF w' rb A C ts i' en bad' k'):qX w rb A C ts i en w' i' bad':=⟨hi,h.le,hk,k',h.has⟩
theorem qX.trans{w w1 w2:World}{rb:Nat}{A:Option Addr}{C:Nat}{ts:zo}{i i1 i2 en:Nat}{b1 b2:Int}(h:qX w rb A C ts i en w1 i1 b1)(k:qX w1 rb A C ts i1 en w2 i2 b2):qX w rb A C ts i en w2 i2 b2:=⟨Nat.le_trans h.1 k.1,k.2.1,h.2.2.1.trans k.2.2.1,k.2.2.2⟩
theorem xI{p:Nat}{w w':World}{o:Obj}(h:Kp p (w.alloc o) w'):Kp p w w':=(Kp.of ((Below.refl _ _).alloc (Nat.le_refl _) o)).trans h
theorem qX.left{w w1:World}{rb:Nat}{A:Option Addr}{C:Nat}{ts:zo}{i i' en:Nat}{bad':Int}{o:Obj}(h:qX (w.alloc o) rb A C ts i en w1 i' bad'):qX w rb A C ts i en w1 i' bad':=⟨h.1,h.2.1,xI h.2.2.1,h.2.2.2⟩
theorem qX.new{w w1:World}{rb:Nat}{A:Option Addr}{C:Nat}{ts:zo}{i i' en:Nat}{bad':Int}(h:qX w rb A C ts i en w1 i' bad'){q:Addr}(hq:w.heap.size≤q.block)(hr:rb<w.heap.size)(v:Value):qX w rb A C ts i en (w1.setCell q v) i' bad':=by
 obtain⟨h1,h2,h3,k',h4⟩:=h;exact⟨h1,h2,h3.setNew hq v,k',h4.other (by omega) v⟩
theorem qX.alloc{w w1:World}{rb:Nat}{A:Option Addr}{C:Nat}{ts:zo}{i i' en:Nat}{bad':Int}(h:qX w rb A C ts i en w1 i' bad')(o:Obj):qX w rb A C ts i en (w1.alloc o) i' bad':=by
 obtain⟨h1,h2,h3,k',h4⟩:=h;exact⟨h1,h2,h3.alloc o,k',h4.alloc o⟩
theorem qX.below{w w1 w2:World}{rb:Nat}{A:Option Addr}{C:Nat}{ts:zo}{i i' en:Nat}{bad':Int}(h:qX w rb A C ts i en w1 i' bad'){B:Nat}(hb:Below B w1 w2)(hB:w.heap.size≤B)(hr:rb<w.heap.size):qX w rb A C ts i en w2 i' bad':=by
 obtain⟨h1,h2,h3,k',h4⟩:=h;exact⟨h1,h2,⟨hb.os.trans h3.os,hb.tape.trans h3.tape,hb.output.trans h3.output,Nat.le_trans h3.size hb.size,λk hk hn=>(hb.block k (by omega)).trans (h3.block k hk hn)⟩,k',h4.below hb (by omega)⟩
theorem qX.refl{w:World}{rb:Nat}{A:Option Addr}{C:Nat}{ts:zo}{i en:Nat}{bad k:Int}(h:zF w rb A C ts i en bad k):qX w rb A C ts i en w i bad:=⟨Nat.le_refl _,h.le,Kp.refl _ _,k,h.has⟩
theorem qX.drewN{w w1:World}{rb:Nat}{A:Option Addr}{C:Nat}{ts:zo}{i i' en:Nat}{bad':Int}(h:qX w rb A C ts i en w1 i' bad')(q:Nat):qX w rb A C ts i en (w1.drewN q) i' bad':=⟨h.1,h.2.1,h.2.2.1.drewN q,h.2.2.2⟩
def yA(s:List UInt8)(t:Tk):Bool:=(t.kind==0||t.kind==3)&&t.s==s
theorem Dn(ts:zo)(i:Nat)(s:List UInt8):uK ts i s=qz (yA s) (ts.drop i):=by
 unfold uK;by_cases hi:i<ts.length
 ·rw[List.getElem?_eq_getElem hi,qu hi];rfl
 ·rw[List.getElem?_eq_none (by omega),v8 hi]
def vr(bad:Int)(ts:zo)(i:Nat)(s:List UInt8):Bool:=decide (bad=0)&&qz (yA s) (ts.drop i)
theorem j7{w:World}{rb:Nat}{A:Option Addr}{C:Nat}{ts:zo}{i en:Nat}{bad k:Int}(h:zF w rb A C ts i en bad k)(s:List UInt8):Calls Tryz.prog 43 #[.pointer (some ⟨rb,0,none⟩),.string (bs s)] w λe w'=>e= .returned (.bool (vr bad ts i s))∧∃q,w'=w.drewN q:=by
 unfold vr;by_cases hb:bad=0
 ·subst hb
  refine(zbr h s).mono ?_;rintro e w' ⟨rfl,hw⟩;exact⟨by rw[Dn];simp,hw⟩
 ·refine(DN h hb s).mono ?_
  rintro e w' ⟨rfl,hw⟩;exact⟨by simp[hb],hw⟩
theorem Zb{bad:Int}{ts:zo}{i:Nat}{s:List UInt8}(h:vr bad ts i s=true):bad=0∧∃hi:i<ts.length,yA s ts[i].1=true:=by
 unfold vr at h;simp only[Bool.and_eq_true,decide_eq_true_eq]at h;refine⟨h.1,?_⟩;by_cases hi:i<ts.length
 ·exact⟨hi,by have:=qu (p:=yA s) hi;rw[←this];exact h.2⟩
 ·rw[v8 hi]at h;cases h.2
theorem Z1{bad:Int}{ts:zo}{i:Nat}{s:List UInt8}(h:vr bad ts i s=false):bad≠0∨qz (yA s) (ts.drop i)=false:=by
 unfold vr at h;by_cases hb:bad=0
 ·right;simpa [hb]using h
 ·exact .inl hb
theorem qC{w:World}{rb:Nat}{A:Option Addr}{C:Nat}{ts:zo}{i en:Nat}{bad k:Int}(h:zF w rb A C ts i en bad k)(s:List UInt8):Calls Tryz.prog 47 #[.pointer (some ⟨rb,0,none⟩),.string (bs s)] w λe w'=>e= .returned (.tuple #[])∧∃i' bad',qX w rb A C ts i en w' i' bad'∧∃x,zX bad (zn (yA s) en (ts.drop i)) ts x i' bad':=by
 cases hc:vr bad ts i s with
 |false =>
  have hs:=(j7 h s)
  rw[hc]at hs;have hb:=Z1 hc;go_enter Tryz.func47,Tryz.ntmps47
  go_wp2_with (first
   |((go_at_call 43)
     refine hs.mono ?_;(rintro e w1 ⟨rfl,q,rfl⟩))
   |((go_at_call 44)
     refine(QP (h.drewN q) 111 (by decide)).mono ?_;(rintro e w1 ⟨rfl,bad',k',hb',h',hk⟩)))
  refine bodyPost_ret (results_none rfl _ _ _) rfl ?_;exact⟨rfl,i,bad',qX.of (Nat.le_refl _) ⟨hk.os,hk.tape,hk.output,hk.size,hk.block⟩ h',(⟨0,[],0⟩,0),Z5 hb hb' _ _⟩
 |true =>
  have hs:=(j7 h s)
  rw[hc]at hs;obtain⟨rfl,hi,hp⟩:=Zb hc;have c1:=h.has.cell 1;simp only[jg,jd,jf]at c1;have hlt:=h.has.lt;have f1:=h.has.free 1;have hf:=h.few;have hi2:(i:Int)<501:=by omega
  have R:∀q,∃i' bad',qX w rb A C ts i en ((w.drewN q).setCell ⟨rb,1,none⟩ (.int .i64 ((i:Int)+1))) i' bad'∧∃x,zX 0 (zn (yA s) en (ts.drop i)) ts x i' bad':=by
   intro q;refine⟨i+1,0,⟨by omega,by omega,((Kp.refl' rb w).drewN q).setP 1 _,k,?_⟩,_,Z2 hi hp⟩;have:=(h.drewN q).has.putP 1 (.int .i64 ((i:Int)+1))
   simpa using this
  clear hc hp hi h hf;generalize ts.length=L at *;go_enter Tryz.func47,Tryz.ntmps47
  go_wp2_with (first
   |((go_at_call 43)
     refine hs.mono ?_;(rintro e w1 ⟨rfl,q,rfl⟩)))
  go_end0
  exact⟨rfl,R q⟩
def xF(w:World)(pb en:Nat)(R:PR (Tk×Nat))(e:Ending)(w':World):Prop:=Kp pb w w'∧match R with
 | .error (c,k)=>e= .panicked (flt c k)
 | .ok (t,r)=>e= .returned (.agg (qt t.1 t.2))∧jF w' pb r en
theorem yu{w:World}{pb en:Nat}{ts:zo}(h:jF w pb ts en){v:Value}{p:Tk→Bool}(ha:Ja w pb v p):Calls Tryz.prog 130 #[.pointer (some ⟨pb,0,none⟩),v] w (xF w pb en (zn p en ts)):=by
 cases ts with
 |nil=>exact(uD h ha rfl).mono λe w' ⟨h1,h2⟩=>⟨Kp.of h2,h1⟩
 |cons t r =>
  cases hp:p t.1
  ·refine(uD h ha hp).mono λe w' ⟨h1,h2⟩=>⟨Kp.of h2,?_⟩
   simp only[zn,hp];exact h1
  ·refine(de h ha hp).mono λe w' ⟨h1,h2,h3⟩=>⟨h3,?_⟩
   simp only[zn,hp,if_true];exact⟨h1,h2⟩
def ZE(w:World)(pb en:Nat)(R:PR Nd)(e:Ending)(w':World):Prop:=Kp pb w w'∧match R with
 | .error (c,k)=>e= .panicked (flt c k)
 | .ok (n,r)=>∃A C,e= .returned (.agg (zR n (.slice A n.l.length C)))∧jB w' (λg=>w.heap.size≤g) n.l (.slice A n.l.length C)∧jF w' pb r en
def zbD(w:World)(pb en:Nat)(R:PR (List Nd))(e:Ending)(w':World):Prop:=Kp pb w w'∧match R with
 | .error (c,k)=>e= .panicked (flt c k)
 | .ok (l,r)=>∃A C,e= .returned (.slice A l.length C)∧jB w' (λg=>w.heap.size≤g) l (.slice A l.length C)∧jF w' pb r en
theorem zy{p:Nat}{w W w':World}(h1:Below w.heap.size w W)(h2:Kp p W w'):Kp p w w':=(Kp.of h1).trans h2
theorem jF.set{W:World}{pb en:Nat}{r:zo}(h:jF W pb r en){q:Addr}(hq:pb<q.block)(v:Value):jF (W.setCell q v) pb r en:=by
 obtain⟨A,C,hH,h1,h2,h3,h4⟩:=h;refine⟨A,C,hH.other (by omega) v,h1,h2,h3,λhne=>?_⟩;obtain⟨g,off,e,hg,ht⟩:=h4 hne;exact⟨g,off,e,hg,λi hi j hj=>(World.cell?_of_block (Below.heap_setCell W q v g (by omega))).trans (ht i hi j hj)⟩
theorem jF.low{W W':World}{pb en B:Nat}{r:zo}(h:jF W pb r en)(hb:Below B W W')(hB:pb<B):jF W' pb r en:=by
 obtain⟨A,C,hH,h1,h2,h3,h4⟩:=h;refine⟨A,C,hH.below hb hB,h1,h2,h3,λhne=>?_⟩;obtain⟨g,off,e,hg,ht⟩:=h4 hne;exact⟨g,off,e,hg,λi hi j hj=>(hb.cell (p:=⟨g,off+i*4+j,none⟩) (by show g<_;omega)).trans (ht i hi j hj)⟩
theorem jF.has{W:World}{pb en:Nat}{r:zo}(h:jF W pb r en):∃cs,ze W pb 87 cs:=by obtain⟨A,C,hH,_⟩:=h;exact⟨_,hH⟩
theorem jF.new{W:World}{pb en:Nat}{r:zo}(h:jF W pb r en)(o:Obj):jF (W.alloc o) pb r en:=h.below ((Below.refl _ _).alloc (Nat.le_refl _) _)
abbrev ZB(W:World)(g:Nat)(x0 x1 x2 x3 x4:Value):World:=((((W.setCell ⟨g,0,none⟩ x0).setCell ⟨g,1,none⟩ x1).setCell ⟨g,2,none⟩ x2).setCell ⟨g,3,none⟩ x3).setCell ⟨g,4,none⟩ x4
theorem jF.set5{W:World}{pb en:Nat}{r:zo}(h:jF W pb r en){g:Nat}(hq:pb<g)(x0 x1 x2 x3 x4:Value):jF (ZB W g x0 x1 x2 x3 x4) pb r en:=
 ((((h.set (q:=⟨g,0,none⟩) hq x0).set (q:=⟨g,1,none⟩) hq x1).set (q:=⟨g,2,none⟩) hq x2).set (q:=⟨g,3,none⟩) hq x3).set (q:=⟨g,4,none⟩) hq x4
theorem Kp.set5{w W:World}{pb:Nat}(h:Kp pb w W){g:Nat}(hq:w.heap.size≤g)(x0 x1 x2 x3 x4:Value):Kp pb w (ZB W g x0 x1 x2 x3 x4):=
 ((((h.setNew (q:=⟨g,0,none⟩) hq x0).setNew (q:=⟨g,1,none⟩) hq x1).setNew (q:=⟨g,2,none⟩) hq x2).setNew (q:=⟨g,3,none⟩) hq x3).setNew (q:=⟨g,4,none⟩) hq x4
theorem jB.set5{w:World}{P:Nat→Prop}{l:List Nd}{v:Value}(h:jB w P l v){g:Nat}(hq:∀k,P k→k≠g)(x0 x1 x2 x3 x4:Value):jB (ZB w g x0 x1 x2 x3 x4) P l v:=
 h.keep λk o hk ho=>by
  have hne:=hq k hk;rw[Below.heap_setCell _ _ _ k hne,Below.heap_setCell _ _ _ k hne,Below.heap_setCell _ _ _ k hne,Below.heap_setCell _ _ _ k hne,Below.heap_setCell _ _ _ k hne];exact ho
theorem zd(w:World)(o:Obj):Below w.heap.size w (w.alloc o):=(Below.refl _ _).alloc (Nat.le_refl _) _
theorem qv(w:World)(o o':Obj):Below w.heap.size w ((w.alloc o).alloc o'):=((Below.refl _ _).alloc (Nat.le_refl _) _).alloc (by simp) _
theorem zaL(d N:Nat)(pb en:Nat)(k:Kd)(w:World)(ts:zo)(h:jF w pb ts en)(hN:N≤13)
 (hx:∀W ts,jF W pb ts en→Calls Tryz.prog 134 #[.pointer (some ⟨pb,0,none⟩),.int .i64 (N:Nat)] W (ZE W pb en (zC d en ts))):
 Calls Tryz.prog 170 #[.pointer (some ⟨pb,0,none⟩),.string (bs k.w),.int .i64 (N:Nat)] w (ZE w pb en (jC (zC d) k en ts)):=by
 have hlt:=h.lt;cases k with
 |nu =>
  have hki:∀W,Calls Tryz.prog 132 #[.int .i64 1] W λe w'=>e= .returned (.func (.func 150) #[] #[.pointer (some ⟨W.heap.size,0,none⟩)])∧w'=W.alloc (.cells #[.int .i64 1] 98):=λW=>ZQ 1 W
  have htk:∀o1,Calls Tryz.prog 130 #[.pointer (some ⟨pb,0,none⟩),.func (.func 150) #[] #[.pointer (some ⟨w.heap.size+1,0,none⟩)]] ((w.alloc o1).alloc (.cells #[.int .i64 1] 98)) (xF ((w.alloc o1).alloc (.cells #[.int .i64 1] 98)) pb en (zn (jS 1) en ts)):=by
   intro o1;have hb:Below w.heap.size w ((w.alloc o1).alloc (.cells #[.int .i64 1] 98)):=((Below.refl _ _).alloc (Nat.le_refl _) _).alloc (by simp) _;refine yu (h.below hb) (Ja.ki _ 1 (by omega) ?_);have:=ze.new (w.alloc o1) 98 #[.int .i64 1]
   simpa using this
  show Calls Tryz.prog 170 #[.pointer (some ⟨pb,0,none⟩),.string ⟨#[110,117,109]⟩,.int .i64 (N:Nat)] w _;simp only[jC,zt];cases hT:zn (jS 1) en ts with
  |error r =>
   obtain⟨c,q⟩:=r;rw[hT]at htk;clear hT h hx;go_enter Tryz.func170,Tryz.ntmps170
   go_wp2_with (first
    |(go_at_call 132;refine(hki _).mono ?_;rintro e w1 ⟨rfl,rfl⟩)
    |(go_at_call 130;refine(htk _).mono ?_;rintro e w2 ⟨hk2,rfl⟩))
   exact⟨rfl,zy (qv _ _ _) hk2,rfl⟩
  |ok r =>
   obtain⟨t,r⟩:=r;rw[hT]at htk;clear hT h hx;go_enter Tryz.func170,Tryz.ntmps170
   go_wp2_with (first
    |(go_at_call 132;refine(hki _).mono ?_;rintro e w1 ⟨rfl,rfl⟩)
    |((go_at_call 130)
      refine(htk _).mono ?_;rintro e w2 ⟨hk2,rfl,hp2⟩;have hr0:ze w2 w.heap.size 24 #[.string ⟨#[]⟩,.string ⟨#[]⟩,.int .i64 0,.int .i64 0,.slice none 0 0]:=((ze.new w _ _).alloc _).kp hk2 (by omega);have r0:=hr0.cell 0;have r1:=hr0.cell 1;have r2:=hr0.cell 2;have r3:=hr0.cell 3;have r4:=hr0.cell 4;have f0:=hr0.free 0;have f1:=hr0.free 1;have f2:=hr0.free 2;have f3:=hr0.free 3;have f4:=hr0.free 4;have hlt2:=hr0.lt;(unfold qt)))
   refine zY rfl rfl ((hr0.set5 _ _ _ _ _).alloc _) rfl ⟨((zy (qv _ _ _) hk2).set5 (Nat.le_refl _) _ _ _ _ _).alloc _,none,0,rfl,jB.nil _ _,(hp2.set5 hlt _ _ _ _ _).new _⟩
 |na =>
  have htk:∀o1,Calls Tryz.prog 130 #[.pointer (some ⟨pb,0,none⟩),.func (.func 113) #[] #[]] (w.alloc o1) (xF (w.alloc o1) pb en (zn jl en ts)):=λo1=>yu (h.new o1) Ja.nm
  show Calls Tryz.prog 170 #[.pointer (some ⟨pb,0,none⟩),.string ⟨#[110,97,109,101]⟩,.int .i64 (N:Nat)] w _;simp only[jC,zt];cases hT:zn jl en ts with
  |error r =>
   obtain⟨c,q⟩:=r;rw[hT]at htk;clear hT h hx;go_enter Tryz.func170,Tryz.ntmps170
   go_wp2_with (go_at_call 130;refine(htk _).mono ?_;rintro e w2 ⟨hk2,rfl⟩)
   exact⟨rfl,zy (zd _ _) hk2,rfl⟩
  |ok r =>
   obtain⟨t,r⟩:=r;rw[hT]at htk;clear hT h hx;go_enter Tryz.func170,Tryz.ntmps170
   go_wp2_with (first
    |((go_at_call 130)
      refine(htk _).mono ?_;rintro e w2 ⟨hk2,rfl,hp2⟩;have hr0:ze w2 w.heap.size 24 #[.string ⟨#[]⟩,.string ⟨#[]⟩,.int .i64 0,.int .i64 0,.slice none 0 0]:=(ze.new w _ _).kp hk2 (by omega);have r0:=hr0.cell 0;have r1:=hr0.cell 1;have r2:=hr0.cell 2;have r3:=hr0.cell 3;have r4:=hr0.cell 4;have f0:=hr0.free 0;have f1:=hr0.free 1;have f2:=hr0.free 2;have f3:=hr0.free 3;have f4:=hr0.free 4;have hlt2:=hr0.lt;(unfold qt)))
   refine zY rfl rfl ((hr0.set5 _ _ _ _ _).alloc _) rfl ⟨((zy (zd _ _) hk2).set5 (Nat.le_refl _) _ _ _ _ _).alloc _,none,0,rfl,jB.nil _ _,(hp2.set5 hlt _ _ _ _ _).new _⟩
 |ex =>
  have hx':=λo=>hx (w.alloc o) ts (h.new o)
  show Calls Tryz.prog 170 #[.pointer (some ⟨pb,0,none⟩),.string ⟨#[101,120,112,114]⟩,.int .i64 (N:Nat)] w _;simp only[jC];cases hE:zC d en ts with
  |error r =>
   obtain⟨c,q⟩:=r;rw[hE]at hx';clear hE h hx;go_enter Tryz.func170,Tryz.ntmps170
   go_wp2_with (go_at_call 134;refine(hx' _).mono ?_;rintro e w2 ⟨hk2,rfl⟩)
   exact⟨rfl,zy (zd _ _) hk2,rfl⟩
  |ok r =>
   obtain⟨n,r⟩:=r;rw[hE]at hx';clear hE h hx;go_enter Tryz.func170,Tryz.ntmps170
   go_wp2_with (first
    |((go_at_call 134)
      refine(hx' _).mono ?_;rintro e w2 ⟨hk2,A,C,rfl,hn2,hp2⟩;have hr0:ze w2 w.heap.size 24 #[.string ⟨#[]⟩,.string ⟨#[]⟩,.int .i64 0,.int .i64 0,.slice none 0 0]:=(ze.new w _ _).kp hk2 (by omega);have r0:=hr0.cell 0;have r1:=hr0.cell 1;have r2:=hr0.cell 2;have r3:=hr0.cell 3;have r4:=hr0.cell 4;have f0:=hr0.free 0;have f1:=hr0.free 1;have f2:=hr0.free 2;have f3:=hr0.free 3;have f4:=hr0.free 4;have hlt2:=hr0.lt;(unfold zR)))
   refine zY rfl rfl (hr0.set5 _ _ _ _ _) rfl ⟨(zy (zd _ _) hk2).set5 (Nat.le_refl _) _ _ _ _ _,A,C,rfl,(hn2.set5 (g:=w.heap.size) (λk hk=>by simp at hk;omega) _ _ _ _ _).mono (λg hg=>by simp at hg;omega),hp2.set5 hlt _ _ _ _ _⟩
theorem vO(x:List UInt8){W:World}{pb en:Nat}{ts:zo}(h:jF W pb ts en):Calls Tryz.prog 130 #[.pointer (some ⟨pb,0,none⟩),.func (.func 151) #[] #[.pointer (some ⟨W.heap.size,0,none⟩)]] (W.alloc (.cells #[.string (bs x)] 9)) (xF W pb en (zn (qM x) en ts)):=by
 have hlt:=h.lt;refine(yu (h.new _) (Ja.sg W.heap.size x (by omega) (ze.new _ _ _))).mono λe w' ⟨hk,hr⟩=>⟨zy (zd _ _) hk,hr⟩
def pre(l:List Nd):PR (List Nd)→PR (List Nd)
 | .error e=> .error e
 | .ok (m,r)=> .ok (l++m,r)
theorem Xr(R:PR (List Nd)):pre [] R=R:=by cases R with
 |error e=>rfl
 |ok x=>obtain⟨m,r⟩:=x;rfl
theorem JD(l m:List Nd)(R:PR (List Nd)):pre l (pre m R)=pre (l++m) R:=by cases R with
 |error e=>rfl
 |ok x=>obtain⟨k,r⟩:=x;simp[pre]
def yw(pe:jk Nd)(ks:List Kd)(i:Nat):jk (List Nd):=jx pe (decide (i=0)) (ks.drop i)
theorem gy{pe:jk Nd}{ks:List Kd}(h:0<ks.length)(en:Nat)(ts:zo):yw pe ks ks.length en ts= .ok ([],ts):=by
 unfold yw;rw[List.drop_length];cases decide (ks.length=0)<;>rfl
theorem kG{pe:jk Nd}{ks:List Kd}(h:0<ks.length)(en:Nat)(ts:zo):yw pe ks 0 en ts=match jC pe (ks[0]'h) en ts with | .error e=> .error e| .ok (n,r)=>pre [n] (yw pe ks 1 en r):=by
 cases ks with
 |nil=>simp at h
 |cons k ks =>
  show zt (jC pe k) _ en ts=_;unfold zt;simp only[List.getElem_cons_zero];cases jC pe k en ts with
  |error e=>rfl
  |ok x =>
   obtain⟨n,r⟩:=x;show zt (jx pe false ks) _ en r=pre [n] (jx pe false ks en r);unfold zt;cases jx pe false ks en r with
   |error e=>rfl
   |ok y=>obtain⟨m,r'⟩:=y;rfl
theorem UK{pe:jk Nd}{ks:List Kd}{i:Nat}(hi:i≠0)(h:i<ks.length)(en:Nat)(ts:zo):yw pe ks i en ts=match zn QR en ts with | .error e=> .error e| .ok (_,r')=>match jC pe ks[i] en r' with | .error e=> .error e| .ok (n,r)=>pre [n] (yw pe ks (i+1) en r):=by
 unfold yw;rw[decide_eq_false hi,decide_eq_false (by omega),List.drop_eq_getElem_cons h];show zt (zn QR) _ en ts=_;unfold zt;cases zn QR en ts with
 |error e=>rfl
 |ok x =>
  obtain⟨t,r'⟩:=x;simp only;cases jC pe ks[i] en r' with
  |error e=>rfl
  |ok y =>
   obtain⟨n,r⟩:=y;simp only;cases jx pe false (ks.drop (i+1)) en r with
   |error e=>rfl
   |ok z=>obtain⟨m,r''⟩:=z;rfl
theorem gK{pe:jk Nd}(f en:Nat){ts:zo}(h:qz QR ts=true):jY pe (f+1) en ts=match zn QR en ts with | .error e=> .error e| .ok (_,r')=>match pe en r' with | .error e=> .error e| .ok (n,r)=>pre [n] (jY pe f en r):=by
 show QS QR _ _ en ts=_;unfold QS;rw[if_pos h];unfold zt;cases zn QR en ts with
 |error e=>rfl
 |ok x =>
  obtain⟨t,r'⟩:=x;simp only;cases pe en r' with
  |error e=>rfl
  |ok y =>
   obtain⟨n,r⟩:=y;simp only;cases jY pe f en r with
   |error e=>rfl
   |ok z=>obtain⟨m,r''⟩:=z;rfl
theorem fQ{pe:jk Nd}(f en:Nat){ts:zo}(h:qz QR ts=false):jY pe (f+1) en ts= .ok ([],ts):=by
 show QS QR _ _ en ts=_;unfold QS;rw[if_neg (by rw[h];decide)];rfl
def JB(pe:jk Nd)(op:List UInt8)(l:List Nd):jk (List Nd):=zt (if(zr op).2 then jY pe 501 else qT []) λm=>zt (zn (qM [41])) λ_=>qT (l++m)
theorem ui{pe:jk Nd}{op:List UInt8}{en:Nat}{ts:zo}{e:Nat×Nat}(h:zn (qM [40]) en ts= .error e):qI pe op en ts= .error e:=by
 unfold qI zt;rw[h]
theorem kq{pe:jk Nd}{op:List UInt8}{en:Nat}{ts r:zo}{t:Tk×Nat}(h:zn (qM [40]) en ts= .ok (t,r)):qI pe op en ts=match yw pe (zr op).1 0 en r with | .error e=> .error e| .ok (l,r')=>JB pe op l en r':=by
 unfold qI;show zt _ _ en ts=_;rw[zt,h];show zt (yw pe (zr op).1 0) (λl=>JB pe op l) en r=_;unfold zt;cases yw pe (zr op).1 0 en r with
 |error e=>rfl
 |ok x=>obtain⟨l,r'⟩:=x;rfl
theorem xH{p:Tk→Bool}{en:Nat}{ts r:zo}{t:Tk×Nat}(h:zn p en ts= .ok (t,r)):ts.length=r.length+1:=by
 cases ts with
 |nil=>cases h
 |cons u ts =>
  simp only[zn]at h
  split at h
  ·cases h;rfl
  ·cases h
theorem YM{P:jk Nd}(hP:zB P){en:Nat}{ts r:zo}{n:Nd}(h:P en ts= .ok (n,r)):r.length≤ts.length:=by
 obtain⟨q,e,_⟩:=(hP en ts).1 n r h;rw[e,List.length_append];omega
theorem Zk(op:List UInt8):(zr op).1.length≤3:=by
 unfold zr
 split
 ·decide
 ·split
  ·decide
  ·split
   ·decide
   ·split<;>decide
theorem Jo{op:List UInt8}(h:(zr op).2=true):(zr op).1= [.ex]:=by
 unfold zr at h ⊢
 repeat' split at h
 all_goals first |cases h|skip
 rename_i h1 h2
 rw[if_neg h1,if_pos h2]
structure KAt (w1 wr:World) (pb en:Nat) (pe:jk Nd) (ks:List Kd) (ts1:zo) (i:Nat) (l:List Nd) (v:Value) (ts:zo):Prop where
 le:i≤ks.length
 len:l.length=i
 row:vl wr w1.heap.size l v
 at_:jF wr pb ts en
 kp:Kp pb w1 wr
 eq:yw pe ks 0 en ts1=pre l (yw pe ks i en ts)
structure MAt (w1 wr:World) (pb en q:Nat) (pe:jk Nd) (ts2:zo) (l m:List Nd) (v:Value) (ts:zo) (f:Nat):Prop where
 row:vl wr w1.heap.size (l++m) v
 at_:jF wr pb ts en
 kp:Kp pb w1 wr
 has:ze wr q 9 #[.string ⟨#[44]⟩]
 fuel:ts.length<f
 len:(l++m).length+ts.length≤510
 eq:jY pe 501 en ts2=pre m (jY pe f en ts)
def u7(pb:Nat)(w:World):Nat:=match w.cell? ⟨pb,0,none⟩with
 |some (.slice _ L _)=>L
 |_=>0
theorem jF.left{w:World}{pb en:Nat}{ts:zo}(h:jF w pb ts en):u7 pb w=ts.length:=by
 obtain⟨A,C,hH,_⟩:=h;unfold u7;rw[hH.cell 0];rfl
theorem Q8{pe:jk Nd}{op:List UInt8}{en:Nat}{ts ts1:zo}{e:Nat×Nat}(h1:qI pe op en ts=match yw pe (zr op).1 0 en ts1 with | .error e=> .error e| .ok (l,r')=>JB pe op l en r')(h2:yw pe (zr op).1 0 en ts1= .error e):qI pe op en ts= .error e:=by
 rw[h1,h2]
theorem gw{pe:jk Nd}{op:List UInt8}{en:Nat}{ts ts1 r:zo}{l:List Nd}(h1:qI pe op en ts=match yw pe (zr op).1 0 en ts1 with | .error e=> .error e| .ok (l,r')=>JB pe op l en r')(h2:yw pe (zr op).1 0 en ts1= .ok (l,r)):qI pe op en ts=JB pe op l en r:=by
 rw[h1,h2]
theorem dZ{pe:jk Nd}{op:List UInt8}{l:List Nd}{en:Nat}{ts:zo}(h:(zr op).2=false):JB pe op l en ts=match zn (qM [41]) en ts with | .error e=> .error e| .ok (_,r)=> .ok (l,r):=by
 unfold JB zt;rw[h];simp only[Bool.false_eq_true,if_false,qT];cases zn (qM [41]) en ts with
 |error e=>rfl
 |ok x=>simp
theorem fS{pe:jk Nd}{op:List UInt8}{l:List Nd}{en:Nat}{ts:zo}{e:Nat×Nat}(h:(zr op).2=true)(h2:jY pe 501 en ts= .error e):JB pe op l en ts= .error e:=by
 unfold JB zt;rw[h];simp only[if_true,h2]
theorem Hq{pe:jk Nd}{op:List UInt8}{l m:List Nd}{en:Nat}{ts r:zo}(h:(zr op).2=true)(h2:jY pe 501 en ts= .ok (m,r)):JB pe op l en ts=match zn (qM [41]) en r with | .error e=> .error e| .ok (_,r)=> .ok (l++m,r):=by
 unfold JB zt;rw[h];simp only[if_true,h2];cases zn (qM [41]) en r with
 |error e=>rfl
 |ok x=>rfl
theorem xV.get{w:World}{A:Option Addr}{L C:Nat}{ks:List Kd}(h:xV w (.slice A L C) (kw ks)):L=ks.length∧L≤C∧(0<ks.length→C≤ks.length)∧∀i (hi:i<ks.length),∃g,A=some ⟨g,0,none⟩∧w.cell? ⟨g,i,none⟩=some (.string (bs ks[i].w)):=by
 rcases h with⟨h,e⟩|⟨g,e,h⟩
 ·cases e
  have :ks= []:=by cases ks with
   |nil=>rfl
   |cons a b=>simp[kw]at h
  subst this;exact⟨rfl,Nat.le_refl _,λh=>Nat.zero_le _,λi hi=>by simp at hi⟩
 ·simp only[kw,List.length_map]at e
  cases e;refine⟨rfl,Nat.le_refl _,λ_=>Nat.le_refl _,λi hi=>⟨g,rfl,?_⟩⟩;rw[h.cell];simp[kw,hi]
theorem DO(d N:Nat)(pb en:Nat)(op:List UInt8)(w:World)(ts:zo)(h:jF w pb ts en)(hN:N≤12)(hpos:0<(zr op).1.length)
 (hx:∀W ts,jF W pb ts en→Calls Tryz.prog 134 #[.pointer (some ⟨pb,0,none⟩),.int .i64 ((N+1:Nat):Int)] W (ZE W pb en (zC d en ts))):
 Calls Tryz.prog 153 #[.pointer (some ⟨pb,0,none⟩),.string (bs op),.int .i64 (N:Nat)] w (zbD w pb en (qI (zC d) op en ts)):=by
 have hlt:=h.lt;have hst:=λ{e t ts r}=>YM (Jr d) (en:=e) (n:=t) (ts:=ts) (r:=r)
 have hpt:∀k W ts,jF W pb ts en→Calls Tryz.prog 170 #[.pointer (some ⟨pb,0,none⟩),.string (bs (Kd.w k)),.int .i64 ((N:Int)+1)] W (ZE W pb en (jC (zC d) k en ts)):=by
  intro k W ts h;have:=zaL d (N+1) pb en k W ts h (by omega) hx;rw[show(((N+1:Nat)):Int)=(N:Int)+1 by omega]at this;exact this
 generalize hpe:zC d=pe at hpt hst ⊢;clear hpe hx;have hin:=Vo op w;have ht40:∀W,jF W pb ts en→Calls Tryz.prog 130 #[.pointer (some ⟨pb,0,none⟩),.func (.func 151) #[] #[.pointer (some ⟨W.heap.size,0,none⟩)]] (W.alloc (.cells #[.string ⟨#[40]⟩] 9)) (xF W pb en (zn (qM [40]) en ts)):=λW h=>vO [40] h
 have ht41:∀W ts,jF W pb ts en→Calls Tryz.prog 130 #[.pointer (some ⟨pb,0,none⟩),.func (.func 151) #[] #[.pointer (some ⟨W.heap.size,0,none⟩)]] (W.alloc (.cells #[.string ⟨#[41]⟩] 9)) (xF W pb en (zn (qM [41]) en ts)):=λW ts h=>vO [41] h
 have ht44:∀W ts,jF W pb ts en→Calls Tryz.prog 130 #[.pointer (some ⟨pb,0,none⟩),.func (.func 151) #[] #[.pointer (some ⟨W.heap.size,0,none⟩)]] (W.alloc (.cells #[.string ⟨#[44]⟩] 9)) (xF W pb en (zn QR en ts)):=λW ts h=>vO [44] h
 have hs40:∀W,Calls Tryz.prog 133 #[.string ⟨#[40]⟩] W λe w'=>e= .returned (.func (.func 151) #[] #[.pointer (some ⟨W.heap.size,0,none⟩)])∧w'=W.alloc (.cells #[.string ⟨#[40]⟩] 9):=λW=>vL [40] W
 have hs41:∀W,Calls Tryz.prog 133 #[.string ⟨#[41]⟩] W λe w'=>e= .returned (.func (.func 151) #[] #[.pointer (some ⟨W.heap.size,0,none⟩)])∧w'=W.alloc (.cells #[.string ⟨#[41]⟩] 9):=λW=>vL [41] W
 have hs44:∀W,Calls Tryz.prog 133 #[.string ⟨#[44]⟩] W λe w'=>e= .returned (.func (.func 151) #[] #[.pointer (some ⟨W.heap.size,0,none⟩)])∧w'=W.alloc (.cells #[.string ⟨#[44]⟩] 9):=λW=>vL [44] W
 cases hT:zn (qM [40]) en ts with
 |error r =>
  obtain⟨c,q⟩:=r;have HE:=ui (pe:=pe) (op:=op) hT;rw[hT]at ht40;rw[HE];clear hT HE;go_enter Tryz.func153,Tryz.ntmps153
  go_wp2_with (first
   |(go_at_call 139;refine hin.mono ?_;rintro e w1 ⟨v,rfl,hb1,hs1⟩)
   |(go_at_call 133;refine(hs40 _).mono ?_;rintro e w2 ⟨rfl,rfl⟩)
   |(go_at_call 130;refine(ht40 _ (h.below hb1)).mono ?_;rintro e w3 ⟨hk3,rfl⟩))
  exact⟨rfl,zy hb1 hk3,rfl⟩
 |ok r =>
  obtain⟨t,ts1⟩:=r;have HE:Hid _:=kq (pe:=pe) (op:=op) hT;rw[hT]at ht40;clear hT
  obtain⟨K,hK⟩:∃K,K=(zr op).1.length:=⟨_,rfl⟩
  have HK:Hid (K=(zr op).1.length):=hK;have hK0:0<K:=by omega
  have hK3:K≤3:=by rw[hK];exact Zk op
  generalize hB:(zr op).2=B at hin;have HB:Hid ((zr op).2=B):=hB;clear hK hB;go_enter Tryz.func153,Tryz.ntmps153
  go_wp2_with (first
   |((go_at_call 139)
     refine hin.mono ?_;rintro e w1 ⟨v,rfl,hb1,hs1⟩;(obtain⟨A8,L8,C8,rfl⟩:∃A L C,v= .slice A L C:=by(rcases hs1 with⟨_,rfl⟩|⟨g,rfl,_⟩<;>exact⟨_,_,_,rfl⟩));obtain⟨e8,l8,c8,g8⟩:=hs1.get;rw[←HK.out]at e8;have e8':=e8.symm;(subst e8'))
   |(go_at_call 133;refine(hs40 _).mono ?_;rintro e w2 ⟨rfl,rfl⟩)
   |(go_at_call 130;refine(ht40 _ (h.below hb1)).mono ?_;rintro e w3 ⟨hk3,rfl,hp3⟩))
  have hlt1:pb<w1.heap.size:=Nat.lt_of_lt_of_le hlt hb1.size
  have hne8:∀g,A8=some ⟨g,0,none⟩→g≠pb:=by
   rintro g rfl;obtain⟨cs,hcs⟩:=(h.below hb1).has;rcases hs1 with⟨_,e⟩|⟨g',e,hg'⟩
   ·cases e
   ·cases e
    exact ze.ne hg' hcs (by decide)
  have hs1':∀W,Kp pb w1 W→xV W (.slice A8 K C8) (kw (zr op).1):=λW hk=>hs1.kp hk (λe=>by
   cases A8 with
   |none=>cases e
   |some a =>
    rcases hs1 with⟨_,e'⟩|⟨g',e',hg'⟩
    ·cases e'
    ·cases e'
     cases e
     exact hne8 _ rfl rfl)
  have hA0:KAt w1 w3 pb en pe (zr op).1 ts1 0 [] (.slice none 0 0) ts1:=⟨Nat.zero_le _,rfl,vl.nil _ _,hp3,hk3,(Xr _).symm⟩
  obtain⟨g,rfl,-⟩:=g8 0 hpos;clear hk3 hp3 g8 ht40 hs40 hin hs1 hne8 h
  go_loopw [7,23] (λv z wr=>∃(i:Nat) (l:List Nd) (ts':zo),i≤K∧z= .int .i64 (i:Nat)∧KAt w1 wr pb en pe (zr op).1 ts1 i l v ts') (λ_ z _=>K-(intOf z).toNat)
  case atStart=>exact⟨0,[],ts1,Nat.zero_le _,rfl,hA0⟩
  case round =>
   clear hA0;obtain⟨i,l,ts',hi,rfl,hA⟩:=hrel;obtain⟨-,hlen,hrow,hat,hkp,heq⟩:=id hA;have hbz:=hkp.size;obtain⟨A7,C7,rfl⟩:=hrow.slice;by_cases hiK:i<K
   ·have hiK':i<(zr op).1.length:=by rw[←HK.out];exact hiK
    obtain⟨g',e',hc⟩:=(hs1' wr hkp).get.2.2.2 i hiK';cases e'
    obtain⟨k,hk⟩:∃k,k=(zr op).1[i]:=⟨_,rfl⟩
    rw[←hk]at hc;have hlw:l.length≤1000:=by omega
    have HLn:Hid (l.length=i):=hlen;clear hlen;by_cases h0:i=0
    ·have e0:=kG (pe:=pe) hpos en ts'
     have hk0:(zr op).1[0]=k:=by rw[hk];simp[h0]
     rw[hk0]at e0;have e0:yw pe (zr op).1 i en ts'=match jC pe k en ts' with | .error e=> .error e| .ok (n,r)=>pre [n] (yw pe (zr op).1 (i+1) en r):=by rw[h0];exact e0
     have h0':¬(0:Int)<(i:Int):=by omega
     clear h0;cases hP:jC pe k en ts' with
     |error r =>
      obtain⟨c,q⟩:=r;rw[hP]at e0;rw[e0]at heq;have HR:Hid (qI pe op en ts= .error (c,q)):=Q8 HE.out heq;have hpk:=hpt k wr ts' hat;rw[hP]at hpk;clear hP e0 heq hk hk0 hA HE
      go_wp2_with (first
       |(go_at_call 170;refine hpk.mono ?_;rintro e w5 ⟨hk5,rfl⟩))
      exact⟨rfl,(zy hb1 hkp).trans hk5,by rw[HR.out]⟩
     |ok r =>
      obtain⟨n,r⟩:=r;rw[hP]at e0;simp only at e0;rw[e0,JD]at heq;have HQ:Hid _:=heq;have hpk:=hpt k wr ts' hat;rw[hP]at hpk;clear hP e0 heq hk hk0 hA HE
      go_wp2_with (first
       |((go_at_call 170)
         refine hpk.mono ?_;rintro e w5 ⟨hk5,A5,C5,rfl,hn5,hp5⟩;obtain⟨hrw,hnw,hbw⟩:=Qv hrow hk5 hlt1 hbz hn5 (.cells (zR n (.slice A5 n.l.length C5)) 24);(unfold zR))
       |((refine zf 40 rfl ?_)
         refine vW rfl _ _ rfl w1.heap.size l _ rfl hrw hbw hlw n A5 _ C5 hnw w5.heap.size rfl (ze.new _ _ _) ?_;(intro v6 w6 hr6 hb6 hg6)))
      go_roundw
      case rel=>exact⟨i+1,_,r,by omega,by go_num,⟨hiK',by simp[HLn.out],hr6,(hp5.new _).low hb6 hlt1,QO ((hkp.trans hk5).alloc _) hb6,HQ.out⟩⟩
      case measure=>simp[intOf];omega
    ·have e0:=UK (pe:=pe) h0 hiK' en ts'
     rw[←hk]at e0;have h0':(0:Int)<(i:Int):=by omega
     cases hT:zn QR en ts' with
     |error r =>
      obtain⟨c,q⟩:=r;rw[hT]at e0;rw[e0]at heq;have HR:Hid (qI pe op en ts= .error (c,q)):=Q8 HE.out heq;have htk:=ht44 wr ts' hat;rw[hT]at htk;clear hT e0 heq hk hA HE h0
      go_wp2_with (first
       |(go_at_call 133;refine(hs44 _).mono ?_;rintro e w2 ⟨rfl,rfl⟩)
       |(go_at_call 130;refine htk.mono ?_;rintro e w5 ⟨hk5,rfl⟩))
      exact⟨rfl,(zy hb1 hkp).trans hk5,by rw[HR.out]⟩
     |ok r =>
      obtain⟨t,r'⟩:=r;rw[hT]at e0;simp only at e0;have htk:=ht44 wr ts' hat;rw[hT]at htk;have hpk:=λW h=>hpt k W r' h
      cases hP:jC pe k en r' with
      |error r =>
       obtain⟨c,q⟩:=r;rw[hP]at e0 hpk;rw[e0]at heq;have HR:Hid (qI pe op en ts= .error (c,q)):=Q8 HE.out heq;clear hT e0 heq hk hA HE h0 hP
       go_wp2_with (first
        |(go_at_call 133;refine(hs44 _).mono ?_;rintro e w2 ⟨rfl,rfl⟩)
        |(go_at_call 130;refine htk.mono ?_;rintro e w5 ⟨hk5,rfl,hp5⟩)
        |(go_at_call 170;refine(hpk _ hp5).mono ?_;rintro e w6 ⟨hk6,rfl⟩))
       exact⟨rfl,((zy hb1 hkp).trans hk5).trans hk6,by rw[HR.out]⟩
      |ok r =>
       obtain⟨n,r⟩:=r;rw[hP]at e0 hpk;simp only at e0;rw[e0,JD]at heq;have HQ:Hid _:=heq;clear hT e0 heq hk hA HE h0 hP
       go_wp2_with (first
        |(go_at_call 133;refine(hs44 _).mono ?_;rintro e w2 ⟨rfl,rfl⟩)
        |(go_at_call 130;refine htk.mono ?_;rintro e w4 ⟨hk4,rfl,hp4⟩)
        |((go_at_call 170)
          refine(hpk _ hp4).mono ?_;rintro e w5 ⟨hk5,A5,C5,rfl,hn5,hp5⟩;have hz4:=hk4.size;obtain⟨hrw,hnw,hbw⟩:=Qv hrow (hk4.trans hk5) hlt1 hbz (hn5.mono (λg hg=>by omega)) (.cells (zR n (.slice A5 n.l.length C5)) 24);(unfold zR))
        |((refine zf 40 rfl ?_)
          refine vW rfl _ _ rfl w1.heap.size l _ rfl hrw hbw hlw n A5 _ C5 hnw w5.heap.size rfl (ze.new _ _ _) ?_;(intro v6 w6 hr6 hb6 hg6)))
       go_roundw
       case rel=>exact⟨i+1,_,r,by omega,by go_num,⟨hiK',by simp[HLn.out],hr6,(hp5.new _).low hb6 hlt1,QO (((hkp.trans hk4).trans hk5).alloc _) hb6,HQ.out⟩⟩
       case measure=>simp[intOf];omega
   ·have hiK2:i=K:=by omega
    subst hiK2
    have hend:yw pe (zr op).1 0 en ts1= .ok (l,ts'):=by
     rw[heq];have:=gy (pe:=pe) hpos en ts';rw[←HK.out]at this;rw[this];simp[pre]
    have H2:Hid (qI pe op en ts=JB pe op l en ts'):=gw HE.out hend;have hlw:l.length≤3:=by omega
    have h500:=hat.len;clear hend heq hlen hA HE;cases B with
    |false =>
     have hpn:=dZ (pe:=pe) (l:=l) (en:=en) (ts:=ts') HB.out;have htk:=λo=>ht41 (wr.alloc o) ts' (hat.new o)
     cases hT:zn (qM [41]) en ts' with
     |error r =>
      obtain⟨c,q⟩:=r;rw[hT]at hpn htk;have HR:Hid (qI pe op en ts= .error (c,q)):=H2.out.trans hpn;clear hT hpn H2
      go_wp2_with (first
       |(go_at_call 133;refine(hs44 _).mono ?_;rintro e w2 ⟨rfl,rfl⟩))
      obtain⟨W,hW⟩:∃W,W=wr.alloc (.cells #[.string ⟨#[44]⟩] 9):=⟨_,rfl⟩
      have htk:=htk (.cells #[.string ⟨#[44]⟩] 9);rw[←hW]at htk ⊢;have hbW:Below wr.heap.size wr W:=by rw[hW];exact zd _ _
      clear hW
      go_loopw [7] (λv wz=>v= .slice A7 l.length C7∧wz=W) (λ_ _=>0)
      case atStart=>exact⟨rfl,rfl⟩
      case round =>
       obtain⟨rfl,rfl⟩:=hrel
       go_wp2_with (first
        |(go_at_call 133;refine(hs41 _).mono ?_;rintro e w2 ⟨rfl,rfl⟩)
        |(go_at_call 130;refine htk.mono ?_;rintro e w5 ⟨hk5,rfl⟩))
       exact⟨rfl,(zy hb1 hkp).trans (zy hbW hk5),by rw[HR.out]⟩
     |ok r =>
      obtain⟨t,r⟩:=r;rw[hT]at hpn htk;have HR:Hid (qI pe op en ts= .ok (l,r)):=H2.out.trans hpn;clear hT hpn H2
      go_wp2_with (first
       |(go_at_call 133;refine(hs44 _).mono ?_;rintro e w2 ⟨rfl,rfl⟩))
      obtain⟨W,hW⟩:∃W,W=wr.alloc (.cells #[.string ⟨#[44]⟩] 9):=⟨_,rfl⟩
      have htk:=htk (.cells #[.string ⟨#[44]⟩] 9);rw[←hW]at htk ⊢;have hbW:Below wr.heap.size wr W:=by rw[hW];exact zd _ _
      clear hW
      go_loopw [7] (λv wz=>v= .slice A7 l.length C7∧wz=W) (λ_ _=>0)
      case atStart=>exact⟨rfl,rfl⟩
      case round =>
       obtain⟨rfl,rfl⟩:=hrel
       go_wp2_with (first
        |(go_at_call 133;refine(hs41 _).mono ?_;rintro e w2 ⟨rfl,rfl⟩)
        |(go_at_call 130;refine htk.mono ?_;rintro e w5 ⟨hk5,rfl,hp5⟩))
       go_ret
       have hkz:=zy hbW hk5;refine⟨(zy hb1 hkp).trans hkz,?_⟩;rw[HR.out];exact⟨A7,C7,rfl,(hrow.kp hkz hlt1).done.mono (λg hg=>Nat.le_trans hb1.size hg),hp5⟩
    |true =>
     have hk1:=Jo HB.out;have hK1:i=1:=by rw[HK.out,hk1];rfl
     have hcs:=hs1';rw[hk1]at hcs;have hpx:=hpt .ex;have hpx:∀W ts,jF W pb ts en→Calls Tryz.prog 170 #[.pointer (some ⟨pb,0,none⟩),.string (bs g6),.int .i64 ((N:Int)+1)] W (ZE W pb en (pe en ts)):=hpx;have h1n:=λe=>fS (pe:=pe) (l:=l) (en:=en) (ts:=ts') (e:=e) HB.out
     have h1y:=λm r=>Hq (pe:=pe) (l:=l) (m:=m) (en:=en) (ts:=ts') (r:=r) HB.out
     simp only[←H2.out]at h1n;simp only[←H2.out]at h1y
     have hcl:∀W,Kp pb w1 W→W.cell? ⟨g,0,none⟩=some (.string (bs g6)):=by
      intro W hk;obtain⟨g',e',hc⟩:=(hcs W hk).get.2.2.2 0 (by decide);cases e';exact hc
     clear hk1 hs1' hpt hpos hcs H2
     go_wp2_with (first
      |(go_at_call 133;refine(hs44 _).mono ?_;rintro e w2 ⟨rfl,rfl⟩))
     obtain⟨W,hW⟩:∃W,W=wr.alloc (.cells #[.string ⟨#[44]⟩] 9):=⟨_,rfl⟩
     have hbW:Below wr.heap.size wr W:=by rw[hW];exact zd _ _
     have hqH:ze W wr.heap.size 9 #[.string ⟨#[44]⟩]:=by rw[hW];exact ze.new _ _ _
     have hqb:wr.heap.size≠pb:=by have:=hat.lt;omega
     rw[←hW]
     obtain⟨q,hq⟩:∃q,q=wr.heap.size:=⟨_,rfl⟩
     rw[←hq]at hqH hqb ⊢
     have hM0:MAt w1 W pb en q pe ts' l [] (.slice A7 l.length C7) ts' 501:=⟨by rw[List.append_nil];exact hrow.kp (Kp.of hbW) hlt1,hat.below hbW,hkp.trans (Kp.of hbW),hqH,by omega,by simp;omega,(Xr _).symm⟩
     clear hq hW hbW hqH hat hrow hkp hbz hs44 ht44
     go_loopw [7] (λv wz=>∃(m:List Nd) (ts2:zo) (f:Nat),MAt w1 wz pb en q pe ts' l m v ts2 f) (λ_ wz=>u7 pb wz)
     case atStart=>exact⟨[],ts',501,hM0⟩
     case round =>
      clear hM0;obtain⟨m,ts2,f,hrow,hat,hkp,hhas,hfuel,hml,heq⟩:=hrel;have hbz:=hkp.size;have hleft:=hat.left;have hcc:=hcl wr hkp;obtain⟨A9,C9,rfl⟩:=hrow.slice
      obtain⟨f,rfl⟩:∃f',f=f'+1:=⟨f-1,by omega⟩
      have hask:Ja wr pb (.func (.func 151) #[] #[.pointer (some ⟨q,0,none⟩)]) QR:=Ja.sg q [44] hqb hhas;have hcm:=JK hat hask
      obtain⟨M,hM⟩:∃M,M=(l++m).length:=⟨_,rfl⟩
      rw[←hM];have HM:Hid (M=(l++m).length):=hM;clear hM;cases hC:qz QR ts2 with
      |false =>
       rw[fQ f en hC]at heq;rw[hC]at hcm;have heq:jY pe 501 en ts'= .ok (m,ts2):=by rw[heq];simp[pre]
       have h1y:=h1y m ts2 heq;have htk:=λW (hb:Below wr.heap.size wr W)=>ht41 W ts2 (hat.below hb)
       clear hC heq h1n hask;cases hT:zn (qM [41]) en ts2 with
       |error r =>
        obtain⟨c,q'⟩:=r;rw[hT]at h1y htk;have HR:Hid (qI pe op en ts= .error (c,q')):=h1y;clear hT h1y
        go_wp2_with (first
         |(go_at_call 135;refine hcm.mono ?_;rintro e w4 ⟨rfl,hb4⟩)
         |(go_at_call 133;refine(hs41 _).mono ?_;rintro e w2 ⟨rfl,rfl⟩)
         |(go_at_call 130;refine(htk _ hb4).mono ?_;rintro e w5 ⟨hk5,rfl⟩))
        exact⟨rfl,((zy hb1 hkp).trans (Kp.of hb4)).trans hk5,by rw[HR.out]⟩
       |ok r =>
        obtain⟨t,r⟩:=r;rw[hT]at h1y htk;have HR:Hid (qI pe op en ts= .ok (l++m,r)):=h1y;clear hT h1y
        go_wp2_with (first
         |(go_at_call 135;refine hcm.mono ?_;rintro e w4 ⟨rfl,hb4⟩)
         |(go_at_call 133;refine(hs41 _).mono ?_;rintro e w2 ⟨rfl,rfl⟩)
         |(go_at_call 130;refine(htk _ hb4).mono ?_;rintro e w5 ⟨hk5,rfl,hp5⟩))
        go_ret
        have hkz:=(Kp.of (p:=pb) hb4).trans hk5;refine⟨(zy hb1 hkp).trans hkz,?_⟩;rw[HR.out];refine⟨A9,C9,by rw[←HM.out];rfl,?_,hp5⟩;exact(hrow.kp hkz hlt1).done.mono (λg hg=>Nat.le_trans hb1.size hg)
      |true =>
       rw[gK f en hC]at heq;rw[hC]at hcm;have htk:=λW (hb:Below wr.heap.size wr W)=>yu (hat.below hb) (hask.kp (Kp.of hb))
       cases hT:zn QR en ts2 with
       |error r =>
        exfalso;cases ts2 with
        |nil=>cases hC
        |cons t r' =>
         simp only[qz]at hC;simp only[zn,hC,if_true]at hT;cases hT
       |ok r =>
        obtain⟨t,r'⟩:=r;rw[hT]at heq htk;simp only at heq;have hsh:=xH hT;have hpk:=λW h=>hpx W r' h
        cases hP:pe en r' with
        |error r =>
         obtain⟨c,q'⟩:=r;rw[hP]at heq hpk;have HR:Hid (qI pe op en ts= .error (c,q')):=h1n _ heq;clear hP hT hC heq h1n h1y hask
         go_wp2_with (first
          |(go_at_call 135;refine hcm.mono ?_;rintro e w4 ⟨rfl,hb4⟩)
          |(go_at_call 130;refine(htk _ hb4).mono ?_;rintro e w5 ⟨hk5,rfl,hp5⟩;have hc5:=hcl _ ((hkp.trans (Kp.of hb4)).trans hk5))
          |(go_at_call 170;refine(hpk _ hp5).mono ?_;rintro e w6 ⟨hk6,rfl⟩))
         exact⟨rfl,(((zy hb1 hkp).trans (Kp.of hb4)).trans hk5).trans hk6,by rw[HR.out]⟩
        |ok r =>
         obtain⟨n,r⟩:=r;rw[hP]at heq hpk;simp only at heq;rw[JD]at heq;have hsh2:=hst hP;have HQ:Hid _:=heq;have hlw2:(l++m).length≤1000:=by omega
         clear hP hT hC heq h1n h1y
         go_wp2_with (first
          |(go_at_call 135;refine hcm.mono ?_;rintro e w4 ⟨rfl,hb4⟩)
          |(go_at_call 130;refine(htk _ hb4).mono ?_;rintro e w5 ⟨hk5,rfl,hp5⟩;have hc5:=hcl _ ((hkp.trans (Kp.of hb4)).trans hk5))
          |((go_at_call 170)
            refine(hpk _ hp5).mono ?_;rintro e w6 ⟨hk6,A5,C5,rfl,hn6,hp6⟩;have hz4:=hb4.size;have hz5:=hk5.size;have hkz:=((Kp.of (p:=pb) hb4).trans hk5).trans hk6;obtain⟨hrw,hnw,hbw⟩:=Qv hrow hkz hlt1 hbz (hn6.mono (λg hg=>by omega)) (.cells (zR n (.slice A5 n.l.length C5)) 24);rw[←HM.out]at hrw hnw;(unfold zR))
          |((refine zf 64 rfl ?_)
            refine vW rfl _ _ rfl w1.heap.size (l++m) _ rfl hrw hbw hlw2 n A5 _ C5 hnw w6.heap.size rfl (ze.new _ _ _) ?_;(intro v7 w7 hr7 hb7 hg7)))
         go_roundw
         case rel =>
          have hh6:=(hhas.kp hkz hqb).alloc (.cells (zR n (.slice A5 n.l.length C5)) 24);refine⟨m++ [n],r,f,?_,(hp6.new _).low hb7 hlt1,QO ((hkp.trans hkz).alloc _) hb7,?_,by omega,?_,HQ.out⟩
          ·rw[←List.append_assoc];exact hr7
          ·exact(hg7.block q hh6.lt (λe=>hrw.ne hh6 (by decide) e.symm)).trans hh6
          ·simp only[List.length_append,List.length_cons,List.length_nil]at *;omega
         case measure =>
          rw[((hp6.new _).low hb7 hlt1).left,hat.left];omega
end
section
open Go.ChangeShapes Go.WideShapes Go.ChangeAt Go.RowKit
section
variable {P:Program} {ops:Array Oper} {Q:Exit→Act→World→Prop} {md:Region.Mode} {S:World→Prop} {m:Nat}
theorem V9{k i:Nat}{listed:Array Bool}(hw:ve md ops k i=true)(hi:listed.getD i true=false):k ∉ Region.ready md ops listed:=by
 intro hm;obtain⟨_,o,ho,hall⟩:=mem_ready.1 hm;simp only[ve,ho,Option.any_some,Array.any_eq_true',Bool.and_eq_true,beq_iff_eq]at hw;obtain⟨e,he,hb,rfl⟩:=hw;have h1:=hall e he hb;by_cases hlt:e.on<listed.size
 ·simp[hlt]at hi h1
  rw[hi]at h1;cases h1
 ·simp[Array.getElem?_eq_none (Nat.not_lt.1 hlt)]at h1
def Vk(md:Region.Mode)(ops:Array Oper):Nat→List Nat→Bool
 |_,[]=>true
 |i,k::ks=>ve md ops k i&&Vk md ops k ks
theorem Vv{listed:Array Bool}:∀ {ks:List Nat} {i m:Nat},Vk md ops i (ks++ [m])=true→listed.getD i true=false→(∀k ∈ ks,listed.getD k true=false)→m ∉ Region.ready md ops listed∧∀k ∈ ks,k ∉ Region.ready md ops listed
 | [],i,m,hc,hi,hk=>by
   have hc':(ve md ops m i&&true)=true:=hc;rw[Bool.and_true]at hc';exact⟨V9 hc' hi,λk hk=>by cases hk⟩
 |k::ks,i,m,hc,hi,hk=>by
  have hc':(ve md ops k i&&Vk md ops k (ks++ [m]))=true:=hc;rw[Bool.and_eq_true]at hc';obtain⟨h1,h2⟩:=Vv hc'.2 (hk k (List.mem_cons_self ..)) (λq hq=>hk q (List.mem_cons_of_mem _ hq));refine⟨h1,λq hq=>?_⟩;rcases List.mem_cons.1 hq with rfl|h3
  ·exact V9 hc'.1 hi
  ·exact h2 q h3
theorem vA.frontC{i:Nat}{oi:Oper}{v:Value}(ks:List Nat)(hi:ops[i]?=some oi)(him:i≠m)(hch:Vk md ops i (ks++ [m])=true)(hsel:∀(j:Nat) (o:Oper) cs b,ops[j]?=some o→o.op≠ .select cs b)
 (hQ:∀c a w,Q (.panic c) (a.put oi.dst v) w→Q (.panic c) a w):∀(n:Nat) (listed:Array Bool) (a:Act) (w:World),(∀k ∈ ks,listed.getD k true=false) →
   (∀j oj,ops[j]?=some oj→j≠i→listed.getD j true=false→(∀e ∈ oj.after,Region.binds md e=true→e.on≠i)→oi.apart ops oj=true) →
   i ∈ Region.ready md ops listed→YieldsIf P ops S oi v a→S w→vA P md ops Q S m n (listed.setIfInBounds i true) (a.put oi.dst v) w→vA P md ops Q S m (n+1) listed a w
 |n,listed,a,w,hun,hfree,hr,hy,hS,H=>by
  refine⟨λh=>absurd (h ▸ hr) (by simp),λj hj=>?_⟩;by_cases hji:j=i
  ·subst hji
   exact hy.wpOp hi hS ⟨λ_=>hS,H⟩
  obtain⟨hm0,hk0⟩:=Vv hch (mem_ready.1 hr).1 hun;have hjm:j≠m:=λe=>hm0 (e ▸ hj)
  have hj':=ready_mono hj hji;cases n with
  |zero=>exact absurd (H.1 ▸ hj') (by simp)
  |succ n =>
   obtain⟨hjun,oj,hoj,hall⟩:=mem_ready.1 hj
   have hno:∀e ∈ oj.after,Region.binds md e=true→e.on≠i:=by
    intro e he hb heq;have h1:=hall e he hb;have h0:=(mem_ready.1 hr).1;subst heq;by_cases hlt:e.on<listed.size
    ·simp[hlt]at h0 h1
     rw[h0]at h1;cases h1
    ·simp[Array.getElem?_eq_none (Nat.not_lt.1 hlt)]at h1
   refine wpOp_mono ?_ (wpOp_putIf hoj (hfree j oj hoj hji hjun hno) (λcs b=>hsel i oi cs b hi) (λcs b=>hsel j oj cs b hoj) hQ hy (H.2 j hj'));rintro a' w' ⟨hy',hS',H'⟩;refine⟨hS',vA.frontC ks hi him hch hsel hQ n (listed.setIfInBounds j true) a' w' (λk hk=>?_) (λk ok hk hki hun hn=>hfree k ok hk hki ?_ hn) (ready_mono hr (Ne.symm hji)) hy' (hS' hjm) ?_⟩
   ·have hjk:j≠k:=λe=>hk0 k hk (e ▸ hj)
    rw[getD_set_ne true hjk];exact hun k hk
   ·by_cases hjk:j=k
    ·subst hjk;exact hjun
    ·rwa [getD_set_ne true hjk]at hun
   ·rw[Array.setIfInBounds_comm _ _ hji]
    exact H'
theorem yT{oi:Oper}(i:Nat)(ks:List Nat)(d:Option Tmp)(v:Value){n:Nat}{listed:Array Bool}{a:Act}{w:World}(hi:ops[i]?=some oi)(hd:oi.dst=d)(him:i≠m)(hch:Vk md ops i (ks++ [m])=true)(hun:ks.all (λk=>listed.getD k true==false)=true)
 (hs:Region.noSelect ops=true) (hf:Region.free md ops listed i=true) (hr:(Region.ready md ops listed).contains i=true)
 (hQ:∀c a w,Q (.panic c) (a.put d v) w→Q (.panic c) a w) (hw:Region.wanted oi (yielded ops a.tmps)=true) (hy:∀w,S w→(execOp a.eval oi).run P w= .ok (.value v) w) (hS:S w)
 (h:vA P md ops Q S m n (listed.setIfInBounds i true) (a.put d v) w):vA P md ops Q S m (n+1) listed a w:=by
 subst hd;refine vA.frontC ks hi him hch (Region.noSelect_spec hs) hQ n listed a w (λk hk=>?_) (Region.free_spec hi hf) (by simpa using hr) (.inl ⟨hw,hy⟩) hS h;have:=List.all_eq_true.1 hun k hk
 simpa using this
end
end
section
open Go.ChangeShapes Go.WideShapes Go.ChangeAt Go.RowKit
theorem fM{P:Program}{ops:Array Oper}{Q:Exit→Act→World→Prop}{md:Region.Mode}{S:World→Prop}{m:Nat}{oi:Oper}(i:Nat)(d:Option Tmp)(f:FuncId)(args:Array Value){n:Nat}{listed:Array Bool}{a:Act}{w:World}{Post:Ending→World→Prop}
 (hr:Region.ready md ops listed= [i]) (hi:ops[i]?=some oi) (hd:oi.dst=d) (hw:Region.wanted oi (yielded ops a.tmps)=true)
 (hrun:(execOp a.eval oi).run P w= .ok (.enter f args) w) (hc:Calls P f args w Post)
 (h:∀e w',Post e w'→(∃v,e= .returned v∧S w'∧vA P md ops Q S m n (listed.setIfInBounds i true) (a.put d v) w')∨∃c,e= .panicked c∧Q (.panic c) a w'):vA P md ops Q S m (n+1) listed a w:=by
 subst hd;refine⟨λh0=>absurd (hr ▸ h0) (by simp),λj hj=>?_⟩;obtain rfl:j=i:=by rw[hr]at hj;simpa using hj
 refine wpOp_step hi (λK hK=>?_);rw[if_pos hw];unfold Oper.wp;rw[hrun,Oper.upon_enter];refine hc.mono λe w' hh=>?_
 rcases h e w' hh with⟨v,rfl,hS,hrest⟩|⟨c,rfl,hq⟩
 ·exact hK _ _ ⟨λ_=>hS,hrest⟩
 ·exact hq
theorem Qs{t:Tk}(h:j6 t=true)(hn:jl t=false):0<(zr t.s).1.length:=by
 unfold j6 at h;rw[hn]at h;simp at h;exact h.2
theorem xE{o:Oper}{a:Act}(ty:TypeId)(x:Operand)(k:Nat)(ho:o.op= .fieldAddr ty x k)(hty:ty=100)(hk:k<4)(g:Nat)(hx:a.eval x= .pointer (some ⟨g,0,none⟩))(w:World):(execOp a.eval o).run Tryz.prog w= .ok (.value (.pointer (some ⟨g,k,none⟩))) w:=by
 subst hty;unfold execOp;simp only[ho,hx];rcases k with _|_|_|_|k
 ·go_simp
 ·go_simp
 ·go_simp
 ·go_simp
 ·omega
theorem yi{o:Oper}{a:Act}(ty:TypeId)(x:Operand)(ho:o.op= .load ty x)(hty:ty=9∨ty=3)(p:Addr)(hx:a.eval x= .pointer (some p))(v:Value)(w:World)(h:w.cell? p=some v):(execOp a.eval o).run Tryz.prog w= .ok (.value v) w:=by
 unfold execOp;simp only[ho,hx];rcases hty with rfl|rfl
 ·go_simp
 ·go_simp
theorem Kp.setRow{p:Nat}{w w':World}(h:Kp p w w'){g:Nat}(hg:w.heap.size≤g)(X:Array Value):Kp p w (w'.setRow g X):=
 ⟨h.os,h.tape,h.output,by have:=h.size;simpa using this,λk hk hn=>(setRow_other w' g k X (by omega)).trans (h.block k hk hn)⟩
theorem jF.setRow{W:World}{pb en:Nat}{r:zo}(h:jF W pb r en){g:Nat}(hq:pb<g)(X:Array Value):jF (W.setRow g X) pb r en:=by
 obtain⟨A,C,hH,h1,h2,h3,h4⟩:=h;refine⟨A,C,hH.setRow_other (by omega) X,h1,h2,h3,λhne=>?_⟩;obtain⟨g',off,e,hg,ht⟩:=h4 hne;exact⟨g',off,e,hg,λi hi j hj=>(World.cell?_of_block (setRow_other W g g' X (by omega))).trans (ht i hi j hj)⟩
theorem jB.setRow{w:World}{P:Nat→Prop}{l:List Nd}{v:Value}(h:jB w P l v){g:Nat}(hq:∀k,P k→k≠g)(X:Array Value):jB (w.setRow g X) P l v:=
 h.keep λk o hk ho=>(setRow_other w g k X (hq k hk)).trans ho
theorem zan(pb en:Nat)(d:Nat):∀(N:Nat) (w:World) (ts:zo),N+d=13→jF w pb ts en →
 Calls Tryz.prog 134 #[.pointer (some ⟨pb,0,none⟩),.int .i64 (N:Nat)] w (ZE w pb en (zC d en ts)):=by
 induction d with
 |zero =>
  intro N w ts hN h;have hN':(12:Int)<(N:Int):=by omega
  have hpl:=λo=>uu (h.new o)
  show Calls _ _ _ _ (ZE w pb en (.error (112,yU en ts)));generalize yU en ts=k at hpl ⊢;have hNb:N≤13:=by omega
  clear hN h;go_enter Tryz.func134,Tryz.ntmps134
  go_wp2_with (go_at_call 148;refine(hpl _).mono ?_;rintro e w2 ⟨rfl,rfl⟩)
  exact⟨rfl,Kp.of (zd _ _),rfl⟩
 |succ d ih =>
  intro N w ts hN h;have hlt:=h.lt;have hNb:N≤12:=by omega
  have hN':¬(12:Int)<(N:Int):=by omega
  have htk:∀o1,Calls Tryz.prog 130 #[.pointer (some ⟨pb,0,none⟩),.func (.func 152) #[] #[]] (w.alloc o1) (xF (w.alloc o1) pb en (zn j6 en ts)):=λo1=>yu (h.new o1) Ja.be
  have hE:zC (d+1) en ts=match zn j6 en ts with | .error e=> .error e| .ok (t,r)=>(if jl t.1 then qT (.mk j8 t.1.s 0 t.2 [])else zt (qI (zC d) t.1.s) λl=>qT (.mk t.1.s [] 0 t.2 l)) en r:=by
   show zt _ _ en ts=_;unfold zt;cases zn j6 en ts with
   |error e=>rfl
   |ok x=>obtain⟨t,r⟩:=x;rfl
  rw[hE];clear hE;cases hT:zn j6 en ts with
  |error r =>
   obtain⟨c,q⟩:=r;rw[hT]at htk;clear hT h ih;go_enter Tryz.func134,Tryz.ntmps134
   go_wp2_with (go_at_call 130;refine(htk _).mono ?_;rintro e w2 ⟨hk2,rfl⟩)
   exact⟨rfl,zy (zd _ _) hk2,rfl⟩
  |ok r =>
   obtain⟨t,r⟩:=r
   have hbt:j6 t.1=true:=by
    cases ts with
    |nil=>cases hT
    |cons u us =>
     simp only[zn]at hT
     split at hT
     ·rename_i hp;cases hT;exact hp
     ·cases hT
   rw[hT]at htk;have hnm:=dW t.1 t.2;cases hn:jl t.1 with
   |true =>
    rw[hn]at hnm;simp only[hn,if_true];show Calls _ _ _ _ (ZE w pb en (.ok (.mk j8 t.1.s 0 t.2 [],r)));clear hT h ih hn hbt;go_enter Tryz.func134,Tryz.ntmps134
    go_wp2_with (first
     |((go_at_call 130)
       refine(htk _).mono ?_;rintro e w2 ⟨hk2,rfl,hp2⟩;have hr0:ze w2 w.heap.size 24 #[.string ⟨#[]⟩,.string ⟨#[]⟩,.int .i64 0,.int .i64 0,.slice none 0 0]:=(ze.new w _ _).kp hk2 (by omega);have hlt2:=hr0.lt;(unfold qt))
     |((go_at_call 113)
       refine(hnm _).mono ?_;rintro e w3 ⟨rfl,hb3⟩;have hr1:=(hr0.alloc _).below hb3 (by simp;omega);have r0:=hr1.cell 0;have r1:=hr1.cell 1;have r2:=hr1.cell 2;have r3:=hr1.cell 3;have r4:=hr1.cell 4;have f0:=hr1.free 0;have f1:=hr1.free 1;have f2:=hr1.free 2;have f3:=hr1.free 3;have f4:=hr1.free 4;have hlt3:=hr1.lt;have ht3:ze w3 w2.heap.size 100 #[.int .i64 (t.1.kind:Nat),.string (bs t.1.s),.int .i64 (t.1.n:Nat),.int .i64 (t.2:Nat)]:=(ze.new w2 _ _).below hb3 (by simp);have s1:=ht3.cell 1;have s3:=ht3.cell 3;have hkk:Kp pb w w3:=(zy (zd _ _) hk2).trans (zy (zd _ _) (Kp.of hb3));(have hpp:=(hp2.new _).below hb3)))
    refine zY rfl rfl (hr1.set5 _ _ _ _ _) rfl ⟨hkk.set5 (Nat.le_refl _) _ _ _ _ _,none,0,rfl,jB.nil _ _,hpp.set5 hlt _ _ _ _ _⟩
   |false =>
    rw[hn]at hnm;have hpos:=Qs hbt hn;have hpr:=λW h=>DO d N pb en t.1.s W r h hNb hpos (λW ts h=>ih (N+1) W ts (by omega) h)
    simp only[hn,Bool.false_eq_true,if_false];show Calls _ _ _ _ (ZE w pb en ((zt (qI (zC d) t.1.s) λl=>qT (.mk t.1.s [] 0 t.2 l)) en r))
    have hR:(zt (qI (zC d) t.1.s) λl=>qT (Nd.mk t.1.s [] 0 t.2 l)) en r=match qI (zC d) t.1.s en r with | .error e=> .error e| .ok (l,r')=> .ok (Nd.mk t.1.s [] 0 t.2 l,r'):=by
     unfold zt;cases qI (zC d) t.1.s en r with
     |error e=>rfl
     |ok x=>rfl
    rw[hR];generalize qI (zC d) t.1.s en r=R at hpr ⊢;clear hT h ih hn hbt hR hpos;go_enter Tryz.func134,Tryz.ntmps134
    go_wp2_with (first
     |((go_at_call 130)
       refine(htk _).mono ?_;rintro e w2 ⟨hk2,rfl,hp2⟩;have hr0:ze w2 w.heap.size 24 #[.string ⟨#[]⟩,.string ⟨#[]⟩,.int .i64 0,.int .i64 0,.slice none 0 0]:=(ze.new w _ _).kp hk2 (by omega);have hlt2:=hr0.lt;(unfold qt))
     |((go_at_call 113)
       refine(hnm _).mono ?_;rintro e w3 ⟨rfl,hb3⟩;have hr1:=(hr0.alloc _).below hb3 (by simp;omega);have ht3:ze w3 w2.heap.size 100 #[.int .i64 (t.1.kind:Nat),.string (bs t.1.s),.int .i64 (t.1.n:Nat),.int .i64 (t.2:Nat)]:=(ze.new w2 _ _).below hb3 (by simp);have hkk:Kp pb w w3:=(zy (zd _ _) hk2).trans (zy (zd _ _) (Kp.of hb3));(have hpp:=(hp2.new _).below hb3)))
    have hlt3:=hpp.lt;have hp3d:jF w3.drew pb r en:=hpp;have hr3d:ze w3.drew w.heap.size 24 #[.string ⟨#[]⟩,.string ⟨#[]⟩,.int .i64 0,.int .i64 0,.slice none 0 0]:=hr1
    have hkd:Kp pb w w3.drew:=⟨hkk.os,hkk.tape,hkk.output,hkk.size,hkk.block⟩
    have hz2:w2.heap.size<w3.drew.heap.size:=ht3.lt;refine vu (S:=λW=>ze W w2.heap.size 100 #[.int .i64 (t.1.kind:Nat),.string (bs t.1.s),.int .i64 (t.1.n:Nat),.int .i64 (t.2:Nat)]) 10 (by kernel_rfl) ht3 (λhHeld=>?_);refine vK 0 (some 21) (.pointer (some ⟨w2.heap.size,1,none⟩)) rfl rfl (λ_ _=>xE _ _ 1 rfl rfl (by decide) _ rfl _) hHeld ?_;simp only[Act.put,zk,zj,zl];refine vK 1 (some 22) (.string (bs t.1.s)) rfl rfl (λwz hz=>yi _ _ rfl (.inl rfl) _ rfl _ _ (hz.cell 1)) hHeld ?_;simp only[Act.put,zk,zj,zl];refine vK 2 (some 23) (.pointer (some ⟨w2.heap.size,3,none⟩)) rfl rfl (λ_ _=>xE _ _ 3 rfl rfl (by decide) _ rfl _) hHeld ?_;simp only[Act.put,zk,zj,zl];refine vK 3 (some 24) (.int .i64 (t.2:Nat)) rfl rfl (λwz hz=>yi _ _ rfl (.inr rfl) _ rfl _ _ (hz.cell 3)) hHeld ?_;simp only[Act.put,zk,zj,zl];refine vI 4 (some 25) (.pointer (some ⟨pb,0,none⟩)) hHeld ?_;simp only[Act.put,zk,zj,zl];refine vK 5 (some 26) (.pointer (some ⟨w2.heap.size,1,none⟩)) rfl rfl (λ_ _=>xE _ _ 1 rfl rfl (by decide) _ rfl _) hHeld ?_;simp only[Act.put,zk,zj,zl];refine vK 6 (some 27) (.string (bs t.1.s)) rfl rfl (λwz hz=>yi _ _ rfl (.inl rfl) _ rfl _ _ (hz.cell 1)) hHeld ?_;simp only[Act.put,zk,zj,zl];refine vI 7 (some 28) (.int .i64 (N:Nat)) hHeld ?_;simp only[Act.put,zk,zj,zl];refine fM 8 (some 29) 153 #[.pointer (some ⟨pb,0,none⟩),.string (bs t.1.s),.int .i64 (N:Nat)] (by kernel_rfl) rfl rfl (by rfl) (by kernel_rfl) (hpr _ hp3d) ?_;rintro e w4 ⟨hk4,hR4⟩;cases R with
    |error er =>
     obtain⟨c,q⟩:=er;exact .inr ⟨_,hR4,⟨rfl,hkd.trans hk4,rfl⟩⟩
    |ok x =>
     obtain⟨l,r'⟩:=x;obtain⟨A,C,rfl,hn4,hp4⟩:=hR4;have ht4:ze w4 w2.heap.size 100 #[.int .i64 (t.1.kind:Nat),.string (bs t.1.s),.int .i64 (t.1.n:Nat),.int .i64 (t.2:Nat)]:=(show ze w3.drew _ _ _ from ht3).kp hk4 (by have:=hp2.lt;omega);refine .inl ⟨_,rfl,ht4,?_⟩;simp only[Act.put,zk,zj,zl];refine vK 9 (some 30) (.agg #[.string (bs t.1.s),.string ⟨#[]⟩,.int .i64 0,.int .i64 (t.2:Nat),.slice A l.length C]) rfl rfl (λ_ _=>by kernel_rfl) ht4 ?_;simp only[Act.put,zk,zj,zl];have hr4:=hr3d.kp hk4 (by omega);refine jA 10 none (w4.setRow w.heap.size #[.string (bs t.1.s),.string ⟨#[]⟩,.int .i64 0,.int .i64 (t.2:Nat),.slice A l.length C]) (by kernel_rfl) rfl rfl (by rfl) (ju _ _ _ rfl _ rfl _ rfl 24 (by kernel_rfl) _ hr4 rfl (by simp[Value.oneCell'])) (by kernel_rfl) ?_;have hrS:=hr4.setRow #[.string (bs t.1.s),.string ⟨#[]⟩,.int .i64 0,.int .i64 (t.2:Nat),.slice A l.length C];have hkS:=(hkd.trans hk4).setRow (Nat.le_refl _) #[.string (bs t.1.s),.string ⟨#[]⟩,.int .i64 0,.int .i64 (t.2:Nat),.slice A l.length C];have hpS:=hp4.setRow hlt #[.string (bs t.1.s),.string ⟨#[]⟩,.int .i64 0,.int .i64 (t.2:Nat),.slice A l.length C];have hnS:=hn4.setRow (g:=w.heap.size) (λk hk=>by have:=hkd.size;have:=hr3d.lt;omega) #[.string (bs t.1.s),.string ⟨#[]⟩,.int .i64 0,.int .i64 (t.2:Nat),.slice A l.length C];generalize w4.setRow w.heap.size #[.string (bs t.1.s),.string ⟨#[]⟩,.int .i64 0,.int .i64 (t.2:Nat),.slice A l.length C]=w5 at hrS hkS hpS hnS ⊢
     go_wp2
     refine zY rfl rfl hrS rfl ⟨hkS,A,C,rfl,hnS.mono (λg hg=>by have:=hkd.size;omega),hpS⟩
end
end Go.Proofs.YtebcfkigbbolaaaGreatDoor
