import Derived.Test.YtebcfkigbbolaaaGreatDoorJoint08
import Derived.Test.YtebcfkigbbolaaaGreatDoorJoint01
import Derived.Test.YtebcfkigbbolaaaGreatDoorJoint02
import Derived.MapKept
import Derived.Laws.IdiomRangeMap
namespace Go.Proofs.YtebcfkigbbolaaaGreatDoor
set_option linter.unusedVariables false
set_option maxRecDepth 100000
set_option maxHeartbeats 40000000
section
open Go.ChangeShapes Go.WideShapes Go.ChangeAt Go.RowKit
def U2(w:World)(R:Except (Nat×Nat) Nd)(e:Ending)(w':World):Prop:=Below w.heap.size w w'∧match R with
 | .error _=>∃c k:Int,c≠0∧e= .returned (.tuple #[.agg #[.string ⟨#[]⟩,.string ⟨#[]⟩,.int .i64 0,.int .i64 0,.slice none 0 0],.int .i64 c,.int .i64 k])
 | .ok n=>∃A C,e= .returned (.tuple #[.agg (zR n (.slice A n.l.length C)),.int .i64 0,.int .i64 (-1)])∧jB w' (λg=>w.heap.size≤g) n.l (.slice A n.l.length C)
theorem UA(f:Nat):∀(x:List UInt8) (a k:Nat) (e o:Nat),ya f x a k= .error (e,o)→e≠0:=by
 induction f with
 |zero=>intro x a k e o h;cases h
 |succ f ih =>
  intro x a k e o h;rw[ya]at h
  split at h
  ·cases h
  ·split at h
   ·cases h;decide
   ·split at h
    ·rename_i e' o' ho
     cases h;rcases Xq ho with rfl|⟨rfl,_⟩<;>decide
    ·rename_i t n ho
     cases hs:ya f (x.drop (qJ false x+n)) (a+qJ false x+n) (k+1)with
     |error r =>
      obtain⟨e',o'⟩:=r;rw[hs]at h;cases h;exact ih _ _ _ _ _ hs
     |ok ts=>rw[hs]at h;cases h
theorem YG{l:List UInt8}{e o:Nat}(h:jr l= .error (e,o)):e≠0:=by
 unfold jr at h
 split at h
 ·cases h;decide
 ·exact UA _ _ _ _ _ _ h
theorem Yt{en:Nat}{ts r:zo}{n:Nd}(h:qi en ts= .ok (n,r)):r.length<ts.length:=by
 have h':zt (zn (jD jt)) (λt=>zt (zn jl) λu=>zt (qV t.1.s) λr=>zt (zn (qM [59])) λ_=>qT (.mk t.1.s u.1.s r.1 t.2 r.2)) en ts= .ok (n,r):=h;cases ts with
 |nil=>cases h'
 |cons t ts =>
  simp only[zt,zn]at h';by_cases hw:jD jt t.1=true
  ·rw[if_pos hw]at h'
   have hst:zB (zt (zn jl) λu=>zt (qV t.1.s) λr=>zt (zn (qM [59])) λ_=>qT (Nd.mk t.1.s u.1.s r.1 (t.2:Nat) r.2)):=(zB.take _).bind λ_=>(ZF _).bind λ_=>(zB.take _).bind λ_=>zB.ret _
   have:=YM hst (en:=en) (ts:=ts) (r:=r) (n:=n) (by simpa only[zt,zn]using h');simp only[List.length_cons];omega
  ·rw[if_neg hw]at h'
   cases h'
structure XF (w W0:World) (rb:Nat) (A:Option Addr) (C:Nat) (ts:zo) (en:Nat) (wr:World) (i:Nat) (b:Int) (l:List Nd) (v:Value):Prop where
 st:qX W0 rb A C ts 0 en wr i b
 hp:ze wr w.heap.size 24 #[.string ⟨#[]⟩,.string ⟨#[]⟩,.int .i64 0,.int .i64 0,.slice none 0 0]
 hq:ze wr (rb+1) 24 #[.string ⟨#[102,105,108,101]⟩,.string ⟨#[]⟩,.int .i64 0,.int .i64 0,v]
 row:vl wr (rb+2) l v
 bel:Below w.heap.size w W0
 lt:w.heap.size<rb
 hw:W0.heap.size=rb+1
theorem XF.rst{w W0:World}{rb:Nat}{A:Option Addr}{C:Nat}{ts:zo}{en:Nat}{wr:World}{i:Nat}{b:Int}{l:List Nd}{v:Value}(h:XF w W0 rb A C ts en wr i b l v){w':World}{i2:Nat}{b2:Int}(s:qX wr rb A C ts i en w' i2 b2):XF w W0 rb A C ts en w' i2 b2 l v:=by
 have hk:=s.2.2.1;have hlt:=h.lt;exact⟨h.st.trans s,h.hp.kp hk (by omega),h.hq.kp hk (by omega),h.row.kp hk (by omega),h.bel,hlt,h.hw⟩
theorem XF.alloc{w W0:World}{rb:Nat}{A:Option Addr}{C:Nat}{ts:zo}{en:Nat}{wr:World}{i:Nat}{b:Int}{l:List Nd}{v:Value}(h:XF w W0 rb A C ts en wr i b l v)(o:Obj):XF w W0 rb A C ts en (wr.alloc o) i b l v:=⟨h.st.alloc o,h.hp.alloc o,h.hq.alloc o,h.row.kp (Kp.of (p:=rb) (zd wr o)) (by omega),h.bel,h.lt,h.hw⟩
theorem XF.drewN{w W0:World}{rb:Nat}{A:Option Addr}{C:Nat}{ts:zo}{en:Nat}{wr:World}{i:Nat}{b:Int}{l:List Nd}{v:Value}(h:XF w W0 rb A C ts en wr i b l v)(n:Nat):XF w W0 rb A C ts en (wr.drewN n) i b l v:=⟨h.st.drewN n,h.hp.drewN n,h.hq.drewN n,h.row.kp ((Kp.refl rb wr).drewN n) (by omega),h.bel,h.lt,h.hw⟩
theorem XF.put{w W0:World}{rb:Nat}{A:Option Addr}{C:Nat}{ts:zo}{en:Nat}{wr:World}{i:Nat}{b:Int}{l:List Nd}{v:Value}(h:XF w W0 rb A C ts en wr i b l v){w6:World}{l':List Nd}{v6:Value}(hr:vl w6 (rb+2) l' v6)(hb:Below (rb+2) wr w6):XF w W0 rb A C ts en (w6.setCell ⟨rb+1,4,none⟩ v6) i b l' v6:=by
 have hlt:=h.lt;have hw:=h.hw;refine⟨(h.st.below hb (by omega) (by omega)).new (q:=⟨rb+1,4,none⟩) (by show _≤rb+1;omega) (by omega) _,(h.hp.below hb (by omega)).other (by show w.heap.size≠rb+1;omega) _,?_,hr.kp ((Kp.refl (rb+1) w6).setP 4 v6) (by omega),h.bel,hlt,hw⟩;exact(h.hq.below hb (by omega)).putP 4 v6
theorem XF.all{w W0:World}{rb:Nat}{A:Option Addr}{C:Nat}{ts:zo}{en:Nat}{wr:World}{i:Nat}{b:Int}{l:List Nd}{v:Value}(h:XF w W0 rb A C ts en wr i b l v):Below w.heap.size w wr:=h.bel.trans ((h.st.2.2.1.below (by have:=h.hw;omega)).mono (by have:=h.lt;omega))
def Hi(rb:Nat)(w:World):Nat:=match w.cell? ⟨rb,3,none⟩with
 |some (.int _ b)=>if b=0 then 502-K7 rb w else 0
 |_=>0
theorem XF.far{w W0:World}{rb:Nat}{A:Option Addr}{C:Nat}{ts:zo}{en:Nat}{wr:World}{i:Nat}{b:Int}{l:List Nd}{v:Value}(h:XF w W0 rb A C ts en wr i b l v):Hi rb wr=if b=0 then 502-i else 0:=by
 obtain⟨k',hH⟩:=h.st.2.2.2;have h1:=hH.cell 1;have h3:=hH.cell 3;simp only[jg,jd,jf]at h1 h3;unfold Hi K7;rw[h3,h1];simp
theorem un{w W:World}{a:Act}{R:Except (Nat×Nat) Nd}{er:Nat×Nat}{c k:Int}(hR:R= .error er)(hc:c≠0)(hp:ze W w.heap.size 24 #[.string ⟨#[]⟩,.string ⟨#[]⟩,.int .i64 0,.int .i64 0,.slice none 0 0])(hb:Below w.heap.size w W)(h2:a.tmps[2]?.getD undef= .pointer (some ⟨w.heap.size,0,none⟩))(h3:a.tmps[3]?.getD undef= .int .i64 c)(h4:a.tmps[4]?.getD undef= .int .i64 k)(hd:a.defers= []):bodyPost Tryz.prog Tryz.f9 (U2 w R) .ret a (ZB W w.heap.size (.string ⟨#[]⟩) (.string ⟨#[]⟩) (.int .i64 0) (.int .i64 0) (.slice none 0 0)):=by
 refine xc rfl h2 h3 h4 (hp.set5 _ _ _ _ _) hd ?_;rw[hR];exact⟨Gz hb _ _ _ _ _,c,k,hc,rfl⟩
theorem Jq{w W:World}{a:Act}{R:Except (Nat×Nat) Nd}{er:Nat×Nat}{c k:Int}(hR:R= .error er)(hc:c≠0)(hp:ze W w.heap.size 24 #[.string ⟨#[]⟩,.string ⟨#[]⟩,.int .i64 0,.int .i64 0,.slice none 0 0])(hb:Below w.heap.size w W)(h2:a.tmps[2]?.getD undef= .pointer (some ⟨w.heap.size,0,none⟩))(h3:a.tmps[3]?.getD undef= .int .i64 c)(h4:a.tmps[4]?.getD undef= .int .i64 k)(hd:a.defers= []):bodyPost Tryz.prog Tryz.f9 (U2 w R) .ret a (ZB W w.heap.size (.string ⟨#[]⟩) (.string ⟨#[]⟩) (.int .i64 0) (.int .i64 0) (.slice none 0 0)).drew:=by
 refine xc rfl h2 h3 h4 (zq (hp.set5 _ _ _ _ _)) hd ?_;rw[hR];exact⟨zu (Gz hb _ _ _ _ _),c,k,hc,rfl⟩
theorem fm{w1:World}{base en:Nat}{A:Option Addr}{C:Nat}{ts:zo}(h:jE w1 base (.slice A ts.length C) ts)(hl:ts.length≤500)(he:en≤2000):zF (w1.alloc (.cells #[.slice A ts.length C,.int .i64 0,.int .i64 (en:Nat),.int .i64 0,.int .i64 0] 61)) w1.heap.size A C ts 0 en 0 0:=by
 have hb:=zd w1 (.cells #[.slice A ts.length C,.int .i64 0,.int .i64 (en:Nat),.int .i64 0,.int .i64 0] 61);refine⟨ze.new _ _ _,λj hj=>?_,Nat.zero_le _,hl,he⟩;obtain⟨g,C',e,h1,h2,h3,h4,_,hc⟩:=h.lies (by intro e;rw[e]at hj;simp at hj);cases e;refine⟨g,0,rfl,Nat.lt_of_lt_of_le h2 hb.size,by omega,λi hi j hj=>?_⟩;rw[Nat.zero_add];exact(hb.cell (p:=⟨g,i*4+j,none⟩) h2).trans (hc i hi j hj)
theorem Fc(x:List UInt8)(w:World)(hm:x.length≤maxLen):Calls Tryz.prog 9 #[.string (bs x)] w (U2 w (jn x)):=by
 have hN:=ze.new w 24 #[.string ⟨#[]⟩,.string ⟨#[]⟩,.int .i64 0,.int .i64 0,.slice none 0 0]
 have hsc:Calls Tryz.prog 21 #[.string (bs x)] (w.alloc (.cells #[.string ⟨#[]⟩,.string ⟨#[]⟩,.int .i64 0,.int .i64 0,.slice none 0 0] 24)) (Ye (w.alloc (.cells #[.string ⟨#[]⟩,.string ⟨#[]⟩,.int .i64 0,.int .i64 0,.slice none 0 0] 24)) (jr x)):=by
  by_cases hl:2000<x.length
  ·exact Ug _ x hl hm
  ·exact dP _ x hl
 have hsz:=zi x;cases hS:jr x with
 |error r =>
  obtain⟨er,o⟩:=r;have he:=YG hS
  have hPx:∃er,jn x= .error er:=by
   cases hs:j9 x with
   |error e=>exact⟨e,by unfold jn;rw[hs]⟩
   |ok ts=>rw[(Vi x ts).2 hs]at hS;cases hS
  obtain⟨e0,hP⟩:=hPx;rw[hS]at hsc;have hc0:((er:Nat):Int)≠0:=by omega
  have hd1:((er:Int)==0)=false:=by rw[beq_eq_false_iff_ne];omega
  have hd2:((er:Int) != 0)=true:=by rw[bne,hd1];rfl
  have hd3:decide ((er:Int)=0)=false:=decide_eq_false hc0;have hd4:decide (er=0)=false:=decide_eq_false he;clear hS hsz;go_enter Tryz.func9,Tryz.ntmps9
  go_wp2_with (first
   |((go_at_call 21)
     refine hsc.mono ?_;rintro e w1 ⟨hb1,rfl⟩;have hN1:=hN.below hb1 hN.lt;have n1:=hN1.lt;have a0:=hN1.cell 0;have a1:=hN1.cell 1;have a2:=hN1.cell 2;have a3:=hN1.cell 3;have a4:=hN1.cell 4;have b0:=hN1.free 0;have b1:=hN1.free 1;have b2:=hN1.free 2;have b3:=hN1.free 3;(have b4:=hN1.free 4)))
  exact un hP hc0 hN1 ((zd w _).trans (hb1.mono (by simp))) rfl rfl rfl rfl
 |ok ts =>
  have hs:j9 x= .ok ts:=(Vi x ts).1 hS;obtain⟨hl5,hG⟩:=vQ hs
  have hx2:x.length≤2000:=by
   unfold jr at hS
   split at hS
   ·cases hS
   ·omega
  have hPx:jn x=match qA 501 x.length ts with | .error e=> .error e| .ok (l,_)=> .ok (.mk ji [] 0 0 l):=by simp only[jn,hs];rfl
  rw[hS]at hsc;generalize hen:x.length=en at *;clear hS hs hm hen;generalize jn x=PX at hPx ⊢;have FIN:Hid (PX=match qA 501 en ts with | .error e=> .error e| .ok (l,_)=> .ok (.mk ji [] 0 0 l)):=hPx;clear hPx;go_enter Tryz.func9,Tryz.ntmps9
  go_wp2_with (first
   |((go_at_call 21)
     refine hsc.mono ?_;rintro e w1 ⟨hb1,v1,rfl,htr⟩
     (obtain⟨A,C,rfl⟩:∃A C,v1= .slice A ts.length C:=by
       rcases htr.2 with⟨rfl,h0⟩|⟨g,cap,cur,rfl,_⟩
       ·exact⟨none,0,by rw[h0]⟩
       ·exact⟨_,_,rfl⟩)
     have hN1:=hN.below hb1 hN.lt;have n1:=hN1.lt;(have hR:=fm (en:=en) htr hl5 hx2)))
  have S1:XF w (w1.alloc (.cells #[.slice A ts.length C,.int .i64 0,.int .i64 (en:Nat),.int .i64 0,.int .i64 0] 61)) w1.heap.size A C ts en ((w1.alloc (.cells #[.slice A ts.length C,.int .i64 0,.int .i64 (en:Nat),.int .i64 0,.int .i64 0] 61)).alloc (.cells #[.string ⟨#[102,105,108,101]⟩,.string ⟨#[]⟩,.int .i64 0,.int .i64 0,.slice none 0 0] 24)) 0 0 [] (.slice none 0 0):=
   ⟨(qX.refl hR).alloc _,(hN1.alloc _).alloc _,ze.new_at (by simp),vl.nil _ _,((zd w _).trans (hb1.mono (by simp))).alloc (by omega) _,n1,by simp⟩
  have HRR:Hid (∃k,zF (w1.alloc (.cells #[.slice A ts.length C,.int .i64 0,.int .i64 (en:Nat),.int .i64 0,.int .i64 0] 61)) w1.heap.size A C ts 0 en 0 k):=⟨0,hR⟩
  generalize w1.alloc (.cells #[.slice A ts.length C,.int .i64 0,.int .i64 (en:Nat),.int .i64 0,.int .i64 0] 61)=W0 at S1 HRR ⊢;generalize w1.heap.size=rb at S1 HRR n1 ⊢;clear hR hb1 hN1 htr hsc;have hlt:=S1.lt;have hw0:=S1.hw
  go_loopw [10] (λ_ wr=>∃(i:Nat) (b:Int) (l:List Nd) (A':Option Addr) (L C':Nat),XF w W0 rb A C ts en wr i b l (.slice A' L C')∧Hid (Qy en ts l i b)∧l.length≤500+1∧(b=0→l.length≤i)∧l.length=L) (λ_ wz=>Hi rb wz)
  case atStart=>exact⟨0,0,[],none,0,0,S1,Qy.start _ _,by simp,λ_=>Nat.le_refl _,rfl⟩
  case round =>
   obtain⟨i,b,l,A',L,C',S2,HK,hl1,hl2,rfl⟩:=hrel;obtain⟨k0,hR0⟩:=HRR.out;obtain⟨k2,h2⟩:=qX.at hR0 S2.st;have c1:=h2.has.cell 1;have c3:=h2.has.cell 3;have c4:=h2.has.cell 4;simp only[jg,jd,jf]at c1 c3 c4;have lr:=h2.has.lt;have le:=h2.le;have lq:=S2.hq.lt;have lp:=S2.hp.lt;have a0:=S2.hp.cell 0;have a1:=S2.hp.cell 1;have a2:=S2.hp.cell 2;have a3:=S2.hp.cell 3;have a4:=S2.hp.cell 4;have b0:=S2.hp.free 0;have b1:=S2.hp.free 1;have b2:=S2.hp.free 2;have b3:=S2.hp.free 3;have b4:=S2.hp.free 4;have d0:=S2.hq.cell 0;have d1:=S2.hq.cell 1;have d2:=S2.hq.cell 2;have d3:=S2.hq.cell 3;have d4:=S2.hq.cell 4;by_cases hb:b=0
   ·subst hb
    have hl3:=hl2 rfl;by_cases hi:i<ts.length
    ·have hst:=dF h2 hG
     have hfar:=S2.far;have HFA:Hid (Hi rb wr=502-i):=by rw[hfar];rfl
     have hii:(i:Int)<(ts.length:Int):=by omega
     clear hfar
     go_wp2_with (first
      |((go_at_call 22)
        refine hst.mono ?_;rintro e w5 ⟨i5,b5,x5,A5,C5,rfl,N5,s5,T5,l5⟩;have S5:=S2.rst s5;have S5a:=(S5.alloc (.cells #[.string (bs x5.op),.string (bs x5.s),.int .i64 x5.n,.int .i64 x5.a,.slice A5 x5.l.length C5] 24)).alloc (.cells #[.string (bs x5.op),.string (bs x5.s),.int .i64 x5.n,.int .i64 x5.a,.slice A5 x5.l.length C5] 24);have z5:=s5.2.2.1.size;have N5a:=(S2.row.apart N5 (by omega)).grow (((Below.refl _ w5).alloc (Nat.le_refl _) (.cells #[.string (bs x5.op),.string (bs x5.s),.int .i64 x5.n,.int .i64 x5.a,.slice A5 x5.l.length C5] 24)).alloc (by simp) (.cells #[.string (bs x5.op),.string (bs x5.s),.int .i64 x5.n,.int .i64 x5.a,.slice A5 x5.l.length C5] 24));have q5:=S5.hq.cell 4;have r5:=S5.hq.lt;have f5:=S5.hq.free 4;(simp only[zR]))
      |((refine zf 48 rfl ?_)
        refine zG rfl _ _ rfl (rb+2) l _ rfl S5a.row (by simp;omega) (by omega) [x5] [.slice A5 x5.l.length C5] (by simp) (by simp) rfl (Q7 _ _ _) (GX N5a) (w5.heap.size+1) rfl (ze.new_at (by simp)) (l.length+1) rfl ?_;intro A6 C6 w6 R6 B6;have S6:=S5a.put R6 B6;have u6:=(S5a.hq.below B6 (by omega)).cell 4;have v6:=(S5a.hq.below B6 (by omega)).free 4;(have y6:=(S5a.hq.below B6 (by omega)).lt)))
     go_roundw
     case rel =>
      have hle:b5=0→i+1≤i5:=by
       intro e;have:=Yt (T5.was e).2;simp only[List.length_drop]at this;omega
      refine⟨i5,b5,l++ [x5],A6,l.length+1,C6,S6,HK.out.next hi T5 hle,?_,?_,by simp⟩
      ·simp;omega
      ·intro e;have:=hle e;simp;omega
     case measure =>
      rw[S6.far,HFA.out]
      split
      ·rename_i e
       have:=Yt (T5.was e).2;simp only[List.length_drop]at this;omega
      ·omega
    ·have hii:¬(i:Int)<(ts.length:Int):=by omega
     have HT:Hid (qA 501 en ts= .ok (l,ts.drop i)):=by
      rcases HK.out.stop (.inr hi)with h|h
      ·exact(h.was rfl).2
      ·omega
     clear HK
     go_wp2
     refine xc rfl rfl rfl rfl (S2.hp.set5 _ _ _ _ _) rfl ?_;have eP:PX= .ok (.mk ji [] 0 0 l):=by rw[FIN.out,HT.out]
     rw[eP];refine⟨Gz S2.all _ _ _ _ _,A',C',rfl,?_⟩;exact(S2.row.done.mono λg hg=>(by omega:w.heap.size≤g∧g≠w.heap.size)).set5 (λg hg=>hg.2) _ _ _ _ _ |>.mono λg hg=>hg.1
   ·have hd1:(b==0)=false:=by simpa using hb
    have hd2:(b != 0)=true:=by rw[bne,hd1];rfl
    have hd3:decide (b=0)=false:=decide_eq_false hb
    have HT:Hid (∃e,qA 501 en ts= .error e):=by
     rcases HK.out.stop (.inl hb)with h|h
     ·unfold zX at h
      rw[if_pos rfl]at h;cases hp:qA 501 en ts with
      |error e=>exact⟨e,rfl⟩
      |ok r=>rw[hp]at h;exact absurd h.2.2 hb
     ·omega
    obtain⟨er,hE⟩:=HT.out;have eP:PX= .error er:=by rw[FIN.out,hE]
    have HP:Hid (PX= .error er):=eP;clear HK HT hE eP FIN;by_cases hi:i<ts.length
    ·have hii:(i:Int)<(ts.length:Int):=by omega
     go_wp2
     go_region
     go_wp2
     exact Jq HP.out hb S2.hp S2.all rfl rfl rfl rfl
    ·have hii:¬(i:Int)<(ts.length:Int):=by omega
     go_wp2
     go_region
     go_wp2
     exact Jq HP.out hb S2.hp S2.all rfl rfl rfl rfl
end
section
open Go.ChangeShapes Go.WideShapes Go.ChangeAt Go.RowKit Go.MapKept
variable {E:Nat→Prop}
structure vM (F:Nat→Prop) (w w':World):Prop where
 os:w'.os=w.os
 tape:w'.tape=w.tape
 output:w'.output=w.output
 size:w.heap.size≤w'.heap.size
 block:∀k,k<w.heap.size→¬F k→w'.heap[k]?=w.heap[k]?
theorem vM.refl(F:Nat→Prop)(w:World):vM F w w:=⟨rfl,rfl,rfl,Nat.le_refl _,λ_ _ _=>rfl⟩
theorem vM.of{F:Nat→Prop}{w w':World}(h:Below w.heap.size w w'):vM F w w':=⟨h.os,h.tape,h.output,h.size,λk hk _=>h.block k hk⟩
theorem vM.trans{F:Nat→Prop}{a b c:World}(h:vM F a b)(k:vM F b c):vM F a c:=⟨k.os.trans h.os,k.tape.trans h.tape,k.output.trans h.output,Nat.le_trans h.size k.size,λi hi hn=>(k.block i (Nat.lt_of_lt_of_le hi h.size) hn).trans (h.block i hi hn)⟩
theorem vM.mono{F G:Nat→Prop}{w w':World}(h:vM F w w')(hg:∀k,k<w.heap.size→F k→G k):vM G w w':=⟨h.os,h.tape,h.output,h.size,λk hk hn=>h.block k hk λhf=>hn (hg k hk hf)⟩
theorem vM.below{F:Nat→Prop}{w w':World}{B:Nat}(h:vM F w w')(hB:B≤w.heap.size)(hF:∀k,F k→B≤k):Below B w w':=⟨h.os,h.tape,h.output,h.size,λk hk=>h.block k (by omega) λhf=>by have:=hF k hf;omega⟩
theorem vM.drewN{F:Nat→Prop}{w w':World}(h:vM F w w')(n:Nat):vM F w (w'.drewN n):=⟨h.os,h.tape,h.output,h.size,h.block⟩
theorem vM.drew{F:Nat→Prop}{w w':World}(h:vM F w w'):vM F w w'.drew:=⟨h.os,h.tape,h.output,h.size,h.block⟩
theorem vM.alloc{F:Nat→Prop}{w w':World}(h:vM F w w')(o:Obj):vM F w (w'.alloc o):=h.trans (.of (zd w' o))
theorem vM.set{F:Nat→Prop}{w w':World}(h:vM F w w'){q:Addr}(hq:F q.block∨w.heap.size≤q.block)(v:Value):vM F w (w'.setCell q v):=
 ⟨h.os,h.tape,h.output,by simpa using h.size,λk hk hn=>(Below.heap_setCell w' q v k (by rintro rfl;rcases hq with hq|hq;exact hn hq;omega)).trans (h.block k hk hn)⟩
theorem vM.left{F:Nat→Prop}{w w':World}{o:Obj}(h:vM F (w.alloc o) w'):vM F w w':=(vM.of (zd w o)).trans h
theorem ze.onl{F:Nat→Prop}{w w':World}{g t:Nat}{cs:Array Value}(h:ze w g t cs)(hk:vM F w w')(hn:¬F g):ze w' g t cs:=(hk.block _ h.lt hn).trans h
structure CV where
 vd:Value
 vp:Value
 vb:Value
 mb:Nat
def CV.own(V:CV)(cb:Nat)(k:Nat):Prop:=k=cb∨V.vd.ownBlock=some k∨V.vp.ownBlock=some k∨V.vb.ownBlock=some k∨k=V.mb
structure je (cb:Nat) (V:CV) (w:World) (V':CV) (w':World):Prop where
 only :vM (V.own cb) w w'
 new:∀k,V'.own cb k→V.own cb k∨w.heap.size≤k
theorem je.refl(cb:Nat)(V:CV)(w:World):je cb V w V w:=⟨.refl _ _,λ_ h=> .inl h⟩
theorem je.trans{cb:Nat}{V V1 V2:CV}{w w1 w2:World}(h:je cb V w V1 w1)(k:je cb V1 w1 V2 w2):je cb V w V2 w2:=by
 refine⟨⟨k.only.os.trans h.only.os,k.only.tape.trans h.only.tape,k.only.output.trans h.only.output,Nat.le_trans h.only.size k.only.size,λi hi hn=>?_⟩,λi hi=>?_⟩
 ·refine(k.only.block i (Nat.lt_of_lt_of_le hi h.only.size) (λe=>?_)).trans (h.only.block i hi hn)
  rcases h.new i e with e'|e'
  ·exact hn e'
  ·omega
 ·rcases k.new i hi with e|e
  ·exact h.new i e
  ·exact .inr (Nat.le_trans h.only.size e)
def Zs(w:World)(P:Nat→Prop)(A:Option Addr)(l:List Nat):Prop:=l= []∨∃b off,A=some ⟨b,off,none⟩∧b<w.heap.size∧P b∧∀j (h:j<l.length),w.cell? ⟨b,off+j,none⟩=some (.int .i64 (l[j]:Nat))
def yc(w:World)(P:Nat→Prop)(A:Option Addr)(l:List UInt8):Prop:=l= []∨∃b off,A=some ⟨b,off,none⟩∧b<w.heap.size∧P b∧∀j (h:j<l.length),w.cell? ⟨b,off+j,none⟩=some (.int .u8 (l[j].toNat:Nat))
theorem Zs.keep{w w':World}{P Q:Nat→Prop}{A:Option Addr}{l:List Nat}(h:Zs w P A l)(hs:w.heap.size≤w'.heap.size)(hk:∀k,k<w.heap.size→P k→w'.heap[k]?=w.heap[k]?∧Q k):Zs w' Q A l:=by
 rcases h with h|⟨b,off,e,hb,hp,hc⟩
 ·exact .inl h
 ·obtain⟨h1,h2⟩:=hk b hb hp
  exact .inr ⟨b,off,e,Nat.lt_of_lt_of_le hb hs,h2,λj hj=>(World.cell?_of_block h1).trans (hc j hj)⟩
theorem yc.keep{w w':World}{P Q:Nat→Prop}{A:Option Addr}{l:List UInt8}(h:yc w P A l)(hs:w.heap.size≤w'.heap.size)(hk:∀k,k<w.heap.size→P k→w'.heap[k]?=w.heap[k]?∧Q k):yc w' Q A l:=by
 rcases h with h|⟨b,off,e,hb,hp,hc⟩
 ·exact .inl h
 ·obtain⟨h1,h2⟩:=hk b hb hp
  exact .inr ⟨b,off,e,Nat.lt_of_lt_of_le hb hs,h2,λj hj=>(World.cell?_of_block h1).trans (hc j hj)⟩
def uW(p:Pt)(u:Value×Value×Value):Array Value:=#[.int .i64 (p.kind:Nat),.int .i64 (p.size:Nat),u.1,.int .i64 (p.dev:Nat),.int .i64 (p.first:Nat),.int .i64 (p.chunk:Nat),u.2.1,u.2.2]
def F7(l:List Pt)(us:List (Value×Value×Value)):List Value:=(l.zip us).flatMap λx=>(uW x.1 x.2).toList
structure Qk (w:World) (P:Nat→Prop) (p:Pt) (u:Value×Value×Value):Prop where
 kids:∃A C,u.1= .slice A p.kids.length C∧p.kids.length≤C∧C≤maxLen∧Zs w P A p.kids
 key:∃A C,u.2.1= .slice A p.key.length C∧p.key.length≤C∧C≤maxLen∧yc w P A p.key
 root:∃A C,u.2.2= .slice A p.root.length C∧p.root.length≤C∧C≤maxLen∧yc w P A p.root
theorem Qk.keep{w w':World}{P Q:Nat→Prop}{p:Pt}{u:Value×Value×Value}(h:Qk w P p u)(hs:w.heap.size≤w'.heap.size)(hk:∀k,k<w.heap.size→P k→w'.heap[k]?=w.heap[k]?∧Q k):Qk w' Q p u:=by
 obtain⟨⟨A1,C1,e1,a1,b1,i1⟩,⟨A2,C2,e2,a2,b2,i2⟩,⟨A3,C3,e3,a3,b3,i3⟩⟩:=h;exact⟨⟨A1,C1,e1,a1,b1,i1.keep hs hk⟩,⟨A2,C2,e2,a2,b2,i2.keep hs hk⟩,⟨A3,C3,e3,a3,b3,i3.keep hs hk⟩⟩
def X7(m:Mn)(u:Value):Value:= .agg #[.string (bs m.word),.int .i64 (m.node:Nat),u]
def jm(ns:xv)(us:List Value):List MapEntry:=(ns.zip us).mapIdx λi x=> { key:= .string (bs x.1.1),val:=X7 x.1.2 x.2,born:=i }
structure XA (w:World) (P:Nat→Prop) (m:Mn) (u:Value):Prop where
 bytes:∃A C,u= .slice A m.bytes.length C∧m.bytes.length≤C∧C≤maxLen∧yc w P A m.bytes
theorem XA.keep{w w':World}{P Q:Nat→Prop}{m:Mn}{u:Value}(h:XA w P m u)(hs:w.heap.size≤w'.heap.size)(hk:∀k,k<w.heap.size→P k→w'.heap[k]?=w.heap[k]?∧Q k):XA w' Q m u:=by
 obtain⟨A,C,e,a,b,i⟩:=h;exact⟨A,C,e,a,b,i.keep hs hk⟩
def jI(o:Option Nat):Int:=match o with
 |none=> -1
 |some n=>(n:Nat)
structure zM (E:Nat→Prop) (w:World) (cb:Nat) (V:CV) (c:Ck):Prop where
 has:ze w cb 68 #[V.vd,.int .i64 (jI c.jour),V.vp,.int .i64 (jI c.expo),.bool c.ro,.map (some V.mb),V.vb,.int .i64 c.eat]
 devs:w.ownsRow cb 3 1 V.vd c.devs.length (c.devs.map λd=> .int .i64 (d:Nat))
 only :w.ownsRow cb 4 1 V.vb c.parts.length ((qg c.parts).map .bool)
 prts:∃us,us.length=c.parts.length∧w.ownsRow cb 47 8 V.vp c.parts.length (F7 c.parts us)∧∀i (h:i<c.parts.length) (h':i<us.length),Qk w (λg=>¬V.own cb g∧E g) c.parts[i] us[i]
 nms:∃us,us.length=c.names.length∧w.heap[V.mb]?=some (.map (jm c.names us).toArray c.names.length)∧∀i (h:i<c.names.length) (h':i<us.length),XA w (λg=>¬V.own cb g∧E g) c.names[i].2 us[i]
 uniq:c.names.Pairwise (λx y=>x.1≠y.1)
 mlt:cb≤V.mb+1
 few:c.parts.length≤100000∧c.names.length≤100000∧c.devs.length≤100000
theorem zM.low{w:World}{cb:Nat}{V:CV}{c:Ck}(h:zM E w cb V c){k:Nat}(hk:V.own cb k):cb≤k+1∧k<w.heap.size:=by
 rcases hk with rfl|e|e|e|rfl
 ·exact⟨Nat.le_succ _,h.has.lt⟩
 ·exact⟨Nat.le_succ_of_le (qy h.devs e).2,(qy h.devs e).1⟩
 ·obtain⟨us,_,hr,_⟩:=h.prts
  exact⟨Nat.le_succ_of_le (qy hr e).2,(qy hr e).1⟩
 ·exact⟨Nat.le_succ_of_le (qy h.only e).2,(qy h.only e).1⟩
 ·obtain⟨us,_,hm,_⟩:=h.nms
  exact⟨h.mlt,(Array.getElem?_eq_some_iff.1 hm).1⟩
theorem zM.keep{w w':World}{cb:Nat}{V:CV}{c:Ck}(h:zM E w cb V c)(hb:Below w.heap.size w w'):zM E w' cb V c:=by
 have hk:∀k,k<w.heap.size→(¬V.own cb k∧E k)→w'.heap[k]?=w.heap[k]?∧(¬V.own cb k∧E k):=λk hk hn=>⟨hb.block k hk,hn⟩
 have hr:∀ {e size n:Nat} {v:Value} {xs:List Value},w.ownsRow cb e size v n xs→w'.ownsRow cb e size v n xs:=λhh=>zI hh (λg o e ho=>(hb.block g (Array.getElem?_eq_some_iff.1 ho).1).trans ho)
 obtain⟨us,e1,r1,i1⟩:=h.prts;obtain⟨ms,e2,r2,i2⟩:=h.nms;exact⟨h.has.below hb h.has.lt,hr h.devs,hr h.only,⟨us,e1,hr r1,λi a b=>(i1 i a b).keep hb.size hk⟩,⟨ms,e2,(hb.block _ (Array.getElem?_eq_some_iff.1 r2).1).trans r2,λi a b=>(i2 i a b).keep hb.size hk⟩,h.uniq,h.mlt,h.few⟩
theorem zM.drewN{w:World}{cb:Nat}{V:CV}{c:Ck}(h:zM E w cb V c)(n:Nat):zM E (w.drewN n) cb V c:=h.keep (jG (Below.refl _ _) n)
theorem zM.alloc{w:World}{cb:Nat}{V:CV}{c:Ck}(h:zM E w cb V c)(o:Obj):zM E (w.alloc o) cb V c:=h.keep (zd w o)
theorem zM.mono{E':Nat→Prop}{w:World}{cb:Nat}{V:CV}{c:Ck}(h:zM E w cb V c)(hE:∀k,k<w.heap.size→¬V.own cb k→E k→E' k):zM E' w cb V c:=by
 obtain⟨us,e1,r1,i1⟩:=h.prts;obtain⟨ms,e2,r2,i2⟩:=h.nms;have hk:∀k,k<w.heap.size→(¬V.own cb k∧E k)→w.heap[k]?=w.heap[k]?∧(¬V.own cb k∧E' k):=λk hk hn=>⟨rfl,hn.1,hE k hk hn.1 hn.2⟩
 exact⟨h.has,h.devs,h.only,⟨us,e1,r1,λi a b=>(i1 i a b).keep (Nat.le_refl _) hk⟩,⟨ms,e2,r2,λi a b=>(i2 i a b).keep (Nat.le_refl _) hk⟩,h.uniq,h.mlt,h.few⟩
def YE(c k:Int):List PanicEntry:= [{ v:= .iface 111 (.agg #[.int .i64 c,.int .i64 k]),recovered:=false }]
end
section
open Go.ChangeShapes Go.WideShapes Go.ChangeAt Go.RowKit Go.MapKept
theorem zaO{a b:List UInt8}(h:bs a=bs b):a=b:=by
 have:=congrArg (λx:ByteArray=>x.toList) h
 simpa [zx]using this
theorem Qx{ns:xv}{us:List Value}(h:us.length=ns.length)(i:Nat)(hi:i<ns.length):(jm ns us)[i]?=some { key:= .string (bs ns[i].1),val:=X7 ns[i].2 (us[i]'(by omega)),born:=i }:=by
 unfold jm;rw[List.getElem?_mapIdx];have hz:i<(ns.zip us).length:=by simp[h,hi]
 rw[List.getElem?_eq_getElem hz];simp
theorem Qw{ns:xv}{us:List Value}(h:us.length=ns.length):(jm ns us).length=ns.length:=by
 unfold jm;simp[h]
theorem Vj{ns:xv}{us:List Value}(h:us.length=ns.length){x:MapEntry}(hx:x ∈ jm ns us):∃i,∃hi:i<ns.length,x= { key:= .string (bs ns[i].1),val:=X7 ns[i].2 (us[i]'(by omega)),born:=i }:=by
 obtain⟨i,hi,e⟩:=List.mem_iff_getElem.1 hx;rw[Qw h]at hi;refine⟨i,hi,?_⟩;have:=Qx h i hi;rw[List.getElem?_eq_getElem (by rw[Qw h];exact hi)]at this;rw[←e];exact Option.some.inj this
theorem gg{ns:xv}{us:List Value}(h:us.length=ns.length)(s:List UInt8)(m:Mn)(u:Value):(jm ns us).toArray.push { key:= .string (bs s),val:=X7 m u,born:=ns.length }=(jm (ns++ [(s,m)]) (us++ [u])).toArray:=by
 apply Array.toList_inj.1;simp only[Array.toList_push];unfold jm;rw[List.zip_append (by omega),List.mapIdx_append];simp[h]
theorem Kh{ns:xv}{s:List UInt8}:(lk ns s=none∧∀i (hi:i<ns.length),ns[i].1≠s)∨∃i,∃hi:i<ns.length,ns[i].1=s∧lk ns s=some ns[i].2∧∀j (hj:j<i),(ns[j]'(by omega)).1≠s:=by
 unfold lk;cases hf:ns.find? (λx=>x.1==s)with
 |none =>
  refine .inl ⟨rfl,λi hi e=>?_⟩;have:=List.find?_eq_none.1 hf ns[i] (List.getElem_mem hi);simp[e]at this
 |some x =>
  obtain⟨h1,i,hi,rfl,h2⟩:=List.find?_eq_some_iff_getElem.1 hf;refine .inr ⟨i,hi,by simpa using h1,rfl,λj hj e=>?_⟩;have:=h2 j hj;simp[e]at this
def fE:Value:= .agg #[.string ⟨#[]⟩,.int .i64 0,.slice none 0 0]
theorem dG{ns:xv}(hu:ns.Pairwise (λx y=>x.1≠y.1)){i j:Nat}(hi:i<ns.length)(hj:j<ns.length)(e:ns[i].1=ns[j].1):i=j:=by
 rcases Nat.lt_trichotomy i j with h|h|h
 ·exact absurd e (List.pairwise_iff_getElem.1 hu i j hi hj h)
 ·exact h
 ·exact absurd e.symm (List.pairwise_iff_getElem.1 hu j i hj hi h)
theorem zbn{ns:xv}(hu:ns.Pairwise (λx y=>x.1≠y.1)){i:Nat}(hi:i<ns.length):lk ns ns[i].1=some ns[i].2:=by
 rcases Kh (ns:=ns) (s:=ns[i].1)with⟨_,h⟩|⟨j,hj,e,h,_⟩
 ·exact absurd rfl (h i hi)
 ·have:=dG hu hj hi e
  subst this;exact h
theorem VZ{ns:xv}{us:List Value}(h:us.length=ns.length)(hu:ns.Pairwise (λx y=>x.1≠y.1))(s:List UInt8):
 (Instr.findNow .string (.string (bs s)) (jm ns us) 0=some none∧lk ns s=none)∨∃i,∃hi:i<ns.length,Instr.findNow .string (.string (bs s)) (jm ns us) 0=some (some (i,X7 ns[i].2 (us[i]'(by omega))))∧lk ns s=some ns[i].2∧ns[i].1=s:=by
 have hks:∀x ∈ jm ns us,IsKey .string x.key:=λx hx=>by obtain⟨i,hi,rfl⟩:=Vj h hx;trivial
 rcases findNow_spec (d:= .string) (k:= .string (bs s)) trivial (jm ns us) 0 hks with⟨g1,g2⟩|⟨j,e,g1,g2,g3⟩
 ·refine .inl ⟨g1,?_⟩
  rcases Kh (ns:=ns) (s:=s)with⟨q,_⟩|⟨i,hi,q,_,_⟩
  ·exact q
  ·have:=g2 _ (List.mem_of_getElem? (Qx h i hi))
   exact absurd (by rw[q]) this
 ·have hj:j<ns.length:=by
   have:=(List.getElem?_eq_some_iff.1 g2).1;rw[Qw h]at this;exact this
  rw[Qx h j hj]at g2;cases g2
  have hs:ns[j].1=s:=by
   injection g3 with g3
   exact zaO g3
  refine .inr ⟨j,hj,by simpa using g1,?_,hs⟩;rw[←hs];exact zbn hu hj
def DI(ns:xv)(us:List Value)(s:List UInt8):Value:=match(ns.zip us).find? (λx=>x.1.1==s)with
 |none=>fE
 |some x=>X7 x.1.2 x.2
theorem Um{ns:xv}{us:List Value}(h:us.length=ns.length)(hu:ns.Pairwise (λx y=>x.1≠y.1)){i:Nat}(hi:i<ns.length):DI ns us ns[i].1=X7 ns[i].2 (us[i]'(by omega)):=by
 unfold DI;have hz:i<(ns.zip us).length:=by simp[h,hi]
 have :(ns.zip us).find? (λx=>x.1.1==ns[i].1)=some (ns.zip us)[i]:=by
  rw[List.find?_eq_some_iff_getElem];refine⟨by simp,i,hz,rfl,λj hj=>?_⟩;simp only[List.getElem_zip];have:=List.pairwise_iff_getElem.1 hu j i (by omega) hi hj
  simpa using this
 rw[this];simp
theorem QJ{ns:xv}{us:List Value}{s:List UInt8}(h:lk ns s=none):DI ns us s=fE:=by
 unfold DI
 have :(ns.zip us).find? (λx=>x.1.1==s)=none:=by
  rw[List.find?_eq_none];intro x hx;rcases Kh (ns:=ns) (s:=s)with⟨_,q⟩|⟨i,hi,_,q,_⟩
  ·obtain⟨i,hi,rfl⟩:=List.mem_iff_getElem.1 hx
   simp only[List.getElem_zip];have:=q i (by simp at hi;omega)
   simpa using this
  ·rw[h]at q;cases q
 rw[this]
theorem xN{o:Oper}{a:Act}(x y:Operand)(ho:o.op= .lookup 65 x y true){w:World}{mb:Nat}{ns:xv}{us:List Value}{k:Nat}(hb:w.heap[mb]?=some (.map (jm ns us).toArray k))(h:us.length=ns.length)(hu:ns.Pairwise (λx y=>x.1≠y.1))(s:List UInt8)(hx:a.eval x= .map (some mb))(hy:a.eval y= .string (bs s)):(execOp a.eval o).run Tryz.prog w= .ok (.value (.tuple #[DI ns us s,.bool (lk ns s).isSome])) w:=by
 have hk:IsKey .string (.string (bs s)):=trivial;unfold execOp;simp only[ho,hx,hy];rcases VZ h hu s with⟨g1,g2⟩|⟨i,hi,g1,g2,g3⟩
 ·have hr:=MapKept.run_findKey (P:=Tryz.prog) (w:=w) Tryz.underlying9 g1
  rw[QJ g2];simp[Instr.lookup,run_underlying Tryz.underlying65,MapKept.run_getObj_map hb,MapKept.run_checkKey Tryz.underlying9 hk,hr,Result.andThen,g2,go_sem];rfl
 ·have hr:=MapKept.run_findKey (P:=Tryz.prog) (w:=w) Tryz.underlying9 g1
  have:=Um h hu hi;rw[g3]at this;rw[this];simp[Instr.lookup,run_underlying Tryz.underlying65,MapKept.run_getObj_map hb,MapKept.run_checkKey Tryz.underlying9 hk,hr,Result.andThen,g2,go_sem]
theorem qG{P:Program}{ops:Array Oper}{Q:Exit→Act→World→Prop}{md:Region.Mode}{S:World→Prop}{oi:Oper}(i:Nat)(d:Option Tmp)(f:FuncId)(args:Array Value){fuel:Nat}{listed:Array Bool}{a:Act}{w:World}{Post:Ending→World→Prop}
 (hr:Region.ready md ops listed= [i]) (hi:ops[i]?=some oi) (hd:oi.dst=d) (hw:Region.wanted oi (yielded ops a.tmps)=true)
 (hrun:(execOp a.eval oi).run P w= .ok (.enter f args) w) (hc:Calls P f args w Post)
 (h:∀e w',Post e w'→(∃v,e= .returned v∧S w'∧wpAnyH P md ops Q S fuel (listed.setIfInBounds i true) (a.put d v) w')∨∃c,e= .panicked c∧Q (.panic c) a w'):wpAnyH P md ops Q S (fuel+1) listed a w:=by
 subst hd;refine wpAnyH_ready hr (by simp) (AllReadyH.cons hi (λK hK=>?_) AllReadyH.nil);rw[if_pos hw];unfold Oper.wp;rw[hrun,Oper.upon_enter];refine hc.mono λe w' hh=>?_
 rcases h e w' hh with⟨v,rfl,hS,hrest⟩|⟨c,rfl,hq⟩
 ·exact hK.out _ _ hS (λ_=>hrest)
 ·exact hq
theorem qa(c k:Int)(w:World):Calls Tryz.prog 86 #[.bool true,.int .i64 c,.int .i64 k] w λe w'=>e= .returned (.tuple #[])∧w'=w:=by
 go_enter Tryz.func86,Tryz.ntmps86
 go_wp2
 go_end0
 exact⟨rfl,rfl⟩
theorem qO(c k:Int)(w:World):Calls Tryz.prog 86 #[.bool false,.int .i64 c,.int .i64 k] w λe w'=>e= .panicked (YE c k)∧w'=w:=by
 go_enter Tryz.func86,Tryz.ntmps86
 go_wp2
 exact⟨rfl,rfl,rfl⟩
end
section
open Go.ChangeShapes Go.WideShapes Go.ChangeAt Go.RowKit Go.MapKept
variable {E:Nat→Prop}
def zbe(w:World)(V:CV)(cb:Nat)(R:Except Er Mn)(e:Ending)(w':World):Prop:=Below w.heap.size w w'∧match R with
 | .error (c,k)=>e= .panicked (YE c k)
 | .ok m=>∃A C,e= .returned (X7 m (.slice A m.bytes.length C))∧m.bytes.length≤C∧C≤maxLen∧yc w' (λg=>¬V.own cb g) A m.bytes
theorem QT{fn:Func}{R:Ending→World→Prop}{a:Act}{W:World}{s g:Nat}{x0 x1 x2:Value}(hr:fn.results= #[.cell s 136])(hs:a.tmps[s]?.getD undef= .pointer (some ⟨g,0,none⟩))(hH:ze W g 136 #[x0,x1,x2])(hd:a.defers= [])(h:R (.returned (.agg #[x0,x1,x2])) W):bodyPost Tryz.prog fn R .ret a W:=by
 have q0:=hH.cell 0;have q1:=hH.cell 1;have q2:=hH.cell 2;exact bodyPost_ret (by simp only[results,hr];simp[hs,go_sem,q0,q1,q2]) hd h
theorem ze.set3{w:World}{g t:Nat}{a b c:Value}(h:ze w g t #[a,b,c])(x0 x1 x2:Value):ze (((w.setCell ⟨g,0,none⟩ x0).setCell ⟨g,1,none⟩ x1).setCell ⟨g,2,none⟩ x2) g t #[x0,x1,x2]:=((h.putP 0 x0).putP 1 x1).putP 2 x2
theorem zby{w W:World}{B g:Nat}(h:Below B w W)(hg:B≤g)(x0 x1 x2:Value):Below B w (((W.setCell ⟨g,0,none⟩ x0).setCell ⟨g,1,none⟩ x1).setCell ⟨g,2,none⟩ x2):=((h.setCell (p:=⟨g,0,none⟩) hg x0).setCell (p:=⟨g,1,none⟩) hg x1).setCell (p:=⟨g,2,none⟩) hg x2
theorem Xs{w:World}{cb:Nat}{V:CV}{c:Ck}(h:zM E w cb V c)(n:Nd)(A:Option Addr)(L C:Nat)(ws:List (List UInt8))(v:Value)(hs:xV w v ws)(hl:ws.length≤100):Calls Tryz.prog 117 #[.pointer (some ⟨cb,0,none⟩),.agg (zR n (.slice A L C)),v] w (zbe w V cb (jj c.names n ws)):=by
 obtain⟨W1,hW1⟩:∃W1,W1=(w.alloc (.cells #[.string (bs n.op),.string (bs n.s),.int .i64 n.n,.int .i64 n.a,.slice A L C] 24)).alloc (.cells #[.string ⟨#[]⟩,.int .i64 0,.slice none 0 0] 136):=⟨_,rfl⟩
 have h1:zM E W1 cb V c:=by rw[hW1];exact(h.alloc _).alloc _
 have hn1:ze W1 w.heap.size 24 #[.string (bs n.op),.string (bs n.s),.int .i64 n.n,.int .i64 n.a,.slice A L C]:=by rw[hW1];exact(ze.new w _ _).alloc _
 have hm1:ze W1 (w.heap.size+1) 136 #[.string ⟨#[]⟩,.int .i64 0,.slice none 0 0]:=by rw[hW1];exact ze.new_at (by simp)
 have hb1:Below w.heap.size w W1:=by rw[hW1];exact qv w _ _
 obtain⟨us,e1,hmb0,hin⟩:=h.nms;have hmb:=(hb1.block V.mb (Array.getElem?_eq_some_iff.1 hmb0).1).trans hmb0;have hun:=h1.uniq;have c5:=h1.has.cell 5;have lc:=h1.has.lt;have nc1:=hn1.cell 1;have nc3:=hn1.cell 3;simp only[jg,jd,jf]at c5 nc1 nc3;have HW:Hid (W1=(w.alloc (.cells #[.string (bs n.op),.string (bs n.s),.int .i64 n.n,.int .i64 n.a,.slice A L C] 24)).alloc (.cells #[.string ⟨#[]⟩,.int .i64 0,.slice none 0 0] 136)):=hW1;clear hW1;unfold jj;cases hk:lk c.names n.s with
 |none =>
  have HU:Hid (DI c.names us n.s= .agg #[.string ⟨#[]⟩,.int .i64 0,.slice none 0 0]):=QJ hk;have HB:Hid ((lk c.names n.s).isSome=false):=by rw[hk];rfl
  clear hk;unfold zR;go_enter Tryz.func117,Tryz.ntmps117
  go_wp2
  rw[←HW.out];refine wp_region_held_drew (S:=λwz=>wz.cell? ⟨cb,5,none⟩=some (.map (some V.mb))∧wz.cell? ⟨w.heap.size,1,none⟩=some (.string (bs n.s))∧wz.heap[V.mb]?=some (.map (jm c.names us).toArray c.names.length)∧Below W1.heap.size W1 wz) (by kernel_rfl) (⟨c5,nc1,hmb,(Below.refl _ W1).drew⟩) (λhHeld=>?_);refine zS 0 (some 10) (.pointer (some ⟨cb,0,none⟩)) hHeld ?_;simp only[Act.put,zk,zj,zl];refine zS 1 (some 11) (.pointer (some ⟨cb,0,none⟩)) hHeld ?_;simp only[Act.put,zk,zj,zl];refine zS 2 (some 12) (.pointer (some ⟨cb,5,none⟩)) hHeld ?_;simp only[Act.put,zk,zj,zl];refine qq 3 (some 13) (.map (some V.mb)) rfl rfl (λwz hz=>by obtain⟨z0,z1,z2,z3⟩:=hz;unfold execOp;go_simp) hHeld ?_;simp only[Act.put,zk,zj,zl];refine zS 4 (some 14) (.pointer (some ⟨w.heap.size,1,none⟩)) hHeld ?_;simp only[Act.put,zk,zj,zl];refine qq 5 (some 15) (.string (bs n.s)) rfl rfl (λwz hz=>by obtain⟨z0,z1,z2,z3⟩:=hz;unfold execOp;go_simp) hHeld ?_;simp only[Act.put,zk,zj,zl];refine qq 6 (some 16) (.tuple #[.agg #[.string ⟨#[]⟩,.int .i64 0,.slice none 0 0],.bool false]) rfl rfl (λwz hz=>(xN _ _ rfl hz.2.2.1 e1 hun n.s rfl rfl).trans (by rw[HU.out,HB.out])) hHeld ?_;simp only[Act.put,zk,zj,zl];refine zS 7 (some 9) (.tuple #[.agg #[.string ⟨#[]⟩,.int .i64 0,.slice none 0 0],.bool false]) hHeld ?_;simp only[Act.put,zk,zj,zl];refine zS 8 (some 17) (.agg #[.string ⟨#[]⟩,.int .i64 0,.slice none 0 0]) hHeld ?_;simp only[Act.put,zk,zj,zl];refine zS 9 (some 18) (.bool false) hHeld ?_;simp only[Act.put,zk,zj,zl]
  have hH2:(W1.drew.alloc (.cells #[.string ⟨#[]⟩,.int .i64 0,.slice none 0 0] 136)).cell? ⟨cb,5,none⟩=some (.map (some V.mb))∧(W1.drew.alloc (.cells #[.string ⟨#[]⟩,.int .i64 0,.slice none 0 0] 136)).cell? ⟨w.heap.size,1,none⟩=some (.string (bs n.s))∧(W1.drew.alloc (.cells #[.string ⟨#[]⟩,.int .i64 0,.slice none 0 0] 136)).heap[V.mb]?=some (.map (jm c.names us).toArray c.names.length)∧Below W1.heap.size W1 (W1.drew.alloc (.cells #[.string ⟨#[]⟩,.int .i64 0,.slice none 0 0] 136)):=⟨za (zd W1.drew _) hHeld.1,za (zd W1.drew _) hHeld.2.1,(Below.heap_alloc W1.drew _ V.mb (Array.getElem?_eq_some_iff.1 hmb).1).trans hHeld.2.2.1,hHeld.2.2.2.trans ((zd W1.drew _))⟩
  refine yR 10 (by kernel_rfl) (Z4 (some 7) (.pointer (some ⟨W1.heap.size,0,none⟩)) (W1.drew.alloc (.cells #[.string ⟨#[]⟩,.int .i64 0,.slice none 0 0] 136)) rfl rfl (by rfl) (by kernel_rfl) ⟨hH2,?_⟩);simp only[Act.put,zk,zj,zl];have hM2:ze (W1.drew.alloc (.cells #[.string ⟨#[]⟩,.int .i64 0,.slice none 0 0] 136)) W1.heap.size 136 #[.string ⟨#[]⟩,.int .i64 0,.slice none 0 0]:=ze.new_at rfl;have hBel:Below W1.heap.size W1 ((W1.drew.alloc (.cells #[.string ⟨#[]⟩,.int .i64 0,.slice none 0 0] 136)).setRow W1.heap.size #[.string ⟨#[]⟩,.int .i64 0,.slice none 0 0]):=vB hH2.2.2.2 (Nat.le_refl _) _
  have hH3:((W1.drew.alloc (.cells #[.string ⟨#[]⟩,.int .i64 0,.slice none 0 0] 136)).setRow W1.heap.size #[.string ⟨#[]⟩,.int .i64 0,.slice none 0 0]).cell? ⟨cb,5,none⟩=some (.map (some V.mb))∧((W1.drew.alloc (.cells #[.string ⟨#[]⟩,.int .i64 0,.slice none 0 0] 136)).setRow W1.heap.size #[.string ⟨#[]⟩,.int .i64 0,.slice none 0 0]).cell? ⟨w.heap.size,1,none⟩=some (.string (bs n.s))∧((W1.drew.alloc (.cells #[.string ⟨#[]⟩,.int .i64 0,.slice none 0 0] 136)).setRow W1.heap.size #[.string ⟨#[]⟩,.int .i64 0,.slice none 0 0]).heap[V.mb]?=some (.map (jm c.names us).toArray c.names.length)∧Below W1.heap.size W1 ((W1.drew.alloc (.cells #[.string ⟨#[]⟩,.int .i64 0,.slice none 0 0] 136)).setRow W1.heap.size #[.string ⟨#[]⟩,.int .i64 0,.slice none 0 0]):=⟨za hBel c5,za hBel nc1,(hBel.block V.mb (Array.getElem?_eq_some_iff.1 hmb).1).trans hmb,hBel⟩
  refine yR 11 (by kernel_rfl) (xW none ((W1.drew.alloc (.cells #[.string ⟨#[]⟩,.int .i64 0,.slice none 0 0] 136)).setRow W1.heap.size #[.string ⟨#[]⟩,.int .i64 0,.slice none 0 0]) rfl rfl (by rfl) (ju 136 _ _ rfl W1.heap.size rfl #[.string ⟨#[]⟩,.int .i64 0,.slice none 0 0] rfl 136 (by kernel_rfl) _ hM2 rfl (by kernel_rfl)) ⟨hH3,?_⟩);simp only[Act.put];refine qq 12 (some 8) (.bool false) rfl rfl (λ_ _=>rfl) hH3 ?_;simp only[Act.put,zk,zj,zl];have hM3:ze ((W1.drew.alloc (.cells #[.string ⟨#[]⟩,.int .i64 0,.slice none 0 0] 136)).setRow W1.heap.size #[.string ⟨#[]⟩,.int .i64 0,.slice none 0 0]) W1.heap.size 136 #[.string ⟨#[]⟩,.int .i64 0,.slice none 0 0]:=hM2.setRow _;refine wpAnyH_done (by kernel_rfl) ?_ _;generalize (W1.drew.alloc (.cells #[.string ⟨#[]⟩,.int .i64 0,.slice none 0 0] 136)).setRow W1.heap.size #[.string ⟨#[]⟩,.int .i64 0,.slice none 0 0]=W2 at hBel hM3 ⊢;have nc3b:=za hBel nc3
  go_wp2_with (first
   |((go_at_call 86)
     refine(qO 131 n.a W2).mono ?_;(rintro e w3 ⟨rfl,rfl⟩)))
  exact⟨rfl,hb1.trans (hBel.mono hb1.size),rfl⟩
 |some m =>
  obtain⟨i,hi,e2,e3⟩:∃i,∃hi:i<c.names.length,c.names[i].1=n.s∧c.names[i].2=m:=by
   rcases Kh (ns:=c.names) (s:=n.s)with⟨q,_⟩|⟨i,hi,q1,q2,_⟩
   ·rw[hk]at q;cases q
   ·exact⟨i,hi,q1,by rw[hk]at q2;cases q2;rfl⟩
  obtain⟨Am,Cm,em,am,bm,hby⟩:=(hin i hi (by omega)).bytes
  have HU:Hid (DI c.names us n.s= .agg #[.string (bs m.word),.int .i64 (m.node:Nat),.slice Am m.bytes.length Cm]):=by
   have:=Um e1 hun hi;rw[e2,em,e3]at this;exact this
  have HB:Hid ((lk c.names n.s).isSome=true):=by rw[hk];rfl
  rw[e3]at am hby;clear hk em hin;unfold zR;go_enter Tryz.func117,Tryz.ntmps117
  go_wp2
  rw[←HW.out];refine wp_region_held_drew (S:=λwz=>wz.cell? ⟨cb,5,none⟩=some (.map (some V.mb))∧wz.cell? ⟨w.heap.size,1,none⟩=some (.string (bs n.s))∧wz.heap[V.mb]?=some (.map (jm c.names us).toArray c.names.length)∧Below W1.heap.size W1 wz) (by kernel_rfl) (⟨c5,nc1,hmb,(Below.refl _ W1).drew⟩) (λhHeld=>?_);refine zS 0 (some 10) (.pointer (some ⟨cb,0,none⟩)) hHeld ?_;simp only[Act.put,zk,zj,zl];refine zS 1 (some 11) (.pointer (some ⟨cb,0,none⟩)) hHeld ?_;simp only[Act.put,zk,zj,zl];refine zS 2 (some 12) (.pointer (some ⟨cb,5,none⟩)) hHeld ?_;simp only[Act.put,zk,zj,zl];refine qq 3 (some 13) (.map (some V.mb)) rfl rfl (λwz hz=>by obtain⟨z0,z1,z2,z3⟩:=hz;unfold execOp;go_simp) hHeld ?_;simp only[Act.put,zk,zj,zl];refine zS 4 (some 14) (.pointer (some ⟨w.heap.size,1,none⟩)) hHeld ?_;simp only[Act.put,zk,zj,zl];refine qq 5 (some 15) (.string (bs n.s)) rfl rfl (λwz hz=>by obtain⟨z0,z1,z2,z3⟩:=hz;unfold execOp;go_simp) hHeld ?_;simp only[Act.put,zk,zj,zl];refine qq 6 (some 16) (.tuple #[.agg #[.string (bs m.word),.int .i64 (m.node:Nat),.slice Am m.bytes.length Cm],.bool true]) rfl rfl (λwz hz=>(xN _ _ rfl hz.2.2.1 e1 hun n.s rfl rfl).trans (by rw[HU.out,HB.out])) hHeld ?_;simp only[Act.put,zk,zj,zl];refine zS 7 (some 9) (.tuple #[.agg #[.string (bs m.word),.int .i64 (m.node:Nat),.slice Am m.bytes.length Cm],.bool true]) hHeld ?_;simp only[Act.put,zk,zj,zl];refine zS 8 (some 17) (.agg #[.string (bs m.word),.int .i64 (m.node:Nat),.slice Am m.bytes.length Cm]) hHeld ?_;simp only[Act.put,zk,zj,zl];refine zS 9 (some 18) (.bool true) hHeld ?_;simp only[Act.put,zk,zj,zl]
  have hH2:(W1.drew.alloc (.cells #[.string ⟨#[]⟩,.int .i64 0,.slice none 0 0] 136)).cell? ⟨cb,5,none⟩=some (.map (some V.mb))∧(W1.drew.alloc (.cells #[.string ⟨#[]⟩,.int .i64 0,.slice none 0 0] 136)).cell? ⟨w.heap.size,1,none⟩=some (.string (bs n.s))∧(W1.drew.alloc (.cells #[.string ⟨#[]⟩,.int .i64 0,.slice none 0 0] 136)).heap[V.mb]?=some (.map (jm c.names us).toArray c.names.length)∧Below W1.heap.size W1 (W1.drew.alloc (.cells #[.string ⟨#[]⟩,.int .i64 0,.slice none 0 0] 136)):=⟨za (zd W1.drew _) hHeld.1,za (zd W1.drew _) hHeld.2.1,(Below.heap_alloc W1.drew _ V.mb (Array.getElem?_eq_some_iff.1 hmb).1).trans hHeld.2.2.1,hHeld.2.2.2.trans ((zd W1.drew _))⟩
  refine yR 10 (by kernel_rfl) (Z4 (some 7) (.pointer (some ⟨W1.heap.size,0,none⟩)) (W1.drew.alloc (.cells #[.string ⟨#[]⟩,.int .i64 0,.slice none 0 0] 136)) rfl rfl (by rfl) (by kernel_rfl) ⟨hH2,?_⟩);simp only[Act.put,zk,zj,zl];have hM2:ze (W1.drew.alloc (.cells #[.string ⟨#[]⟩,.int .i64 0,.slice none 0 0] 136)) W1.heap.size 136 #[.string ⟨#[]⟩,.int .i64 0,.slice none 0 0]:=ze.new_at rfl;have hBel:Below W1.heap.size W1 ((W1.drew.alloc (.cells #[.string ⟨#[]⟩,.int .i64 0,.slice none 0 0] 136)).setRow W1.heap.size #[.string (bs m.word),.int .i64 (m.node:Nat),.slice Am m.bytes.length Cm]):=vB hH2.2.2.2 (Nat.le_refl _) _
  have hH3:((W1.drew.alloc (.cells #[.string ⟨#[]⟩,.int .i64 0,.slice none 0 0] 136)).setRow W1.heap.size #[.string (bs m.word),.int .i64 (m.node:Nat),.slice Am m.bytes.length Cm]).cell? ⟨cb,5,none⟩=some (.map (some V.mb))∧((W1.drew.alloc (.cells #[.string ⟨#[]⟩,.int .i64 0,.slice none 0 0] 136)).setRow W1.heap.size #[.string (bs m.word),.int .i64 (m.node:Nat),.slice Am m.bytes.length Cm]).cell? ⟨w.heap.size,1,none⟩=some (.string (bs n.s))∧((W1.drew.alloc (.cells #[.string ⟨#[]⟩,.int .i64 0,.slice none 0 0] 136)).setRow W1.heap.size #[.string (bs m.word),.int .i64 (m.node:Nat),.slice Am m.bytes.length Cm]).heap[V.mb]?=some (.map (jm c.names us).toArray c.names.length)∧Below W1.heap.size W1 ((W1.drew.alloc (.cells #[.string ⟨#[]⟩,.int .i64 0,.slice none 0 0] 136)).setRow W1.heap.size #[.string (bs m.word),.int .i64 (m.node:Nat),.slice Am m.bytes.length Cm]):=⟨za hBel c5,za hBel nc1,(hBel.block V.mb (Array.getElem?_eq_some_iff.1 hmb).1).trans hmb,hBel⟩
  refine yR 11 (by kernel_rfl) (xW none ((W1.drew.alloc (.cells #[.string ⟨#[]⟩,.int .i64 0,.slice none 0 0] 136)).setRow W1.heap.size #[.string (bs m.word),.int .i64 (m.node:Nat),.slice Am m.bytes.length Cm]) rfl rfl (by rfl) (ju 136 _ _ rfl W1.heap.size rfl #[.string (bs m.word),.int .i64 (m.node:Nat),.slice Am m.bytes.length Cm] rfl 136 (by kernel_rfl) _ hM2 rfl (by kernel_rfl)) ⟨hH3,?_⟩);simp only[Act.put];refine qq 12 (some 8) (.bool true) rfl rfl (λ_ _=>rfl) hH3 ?_;simp only[Act.put,zk,zj,zl];have hM3:ze ((W1.drew.alloc (.cells #[.string ⟨#[]⟩,.int .i64 0,.slice none 0 0] 136)).setRow W1.heap.size #[.string (bs m.word),.int .i64 (m.node:Nat),.slice Am m.bytes.length Cm]) W1.heap.size 136 #[.string (bs m.word),.int .i64 (m.node:Nat),.slice Am m.bytes.length Cm]:=hM2.setRow _;refine wpAnyH_done (by kernel_rfl) ?_ _;generalize (W1.drew.alloc (.cells #[.string ⟨#[]⟩,.int .i64 0,.slice none 0 0] 136)).setRow W1.heap.size #[.string (bs m.word),.int .i64 (m.node:Nat),.slice Am m.bytes.length Cm]=W2 at hBel hM3 ⊢;have nc3b:=za hBel nc3
  go_wp2_with (first
   |((go_at_call 86)
     refine(qa 131 n.a W2).mono ?_;rintro e w3 ⟨rfl,hw3⟩;(obtain rfl:W2=w3:=hw3.symm)))
  have mc0:=hM3.cell 0;have hs2:xV W2 v ws:=hs.below (hb1.trans (hBel.mono hb1.size));refine wp_region_held_drew (S:=λwz=>wz.cell? ⟨W1.heap.size,0,none⟩=some (.string (bs m.word))∧wz.cell? ⟨w.heap.size,3,none⟩=some (.int .i64 n.a)∧xV wz v ws∧wz.heap=W2.heap∧Below W2.heap.size W2 wz) (by kernel_rfl) (⟨mc0,nc3b,hs2,rfl,(Below.refl _ W2).drew⟩) (λhHeld=>?_);refine zS 0 (some 23) (v) hHeld ?_;simp only[Act.put,zk,zj,zl];refine zS 1 (some 24) (.pointer (some ⟨W1.heap.size,0,none⟩)) hHeld ?_;simp only[Act.put,zk,zj,zl];refine qq 2 (some 25) (.string (bs m.word)) rfl rfl (λwz hz=>by obtain⟨z0,z1,z2,z3⟩:=hz;unfold execOp;go_simp) hHeld ?_;simp only[Act.put,zk,zj,zl];refine zS 4 (some 27) (.pointer (some ⟨w.heap.size,3,none⟩)) hHeld ?_;simp only[Act.put,zk,zj,zl];refine qq 5 (some 28) (.int .i64 n.a) rfl rfl (λwz hz=>by obtain⟨z0,z1,z2,z3⟩:=hz;unfold execOp;go_simp) hHeld ?_;simp only[Act.put,zk,zj,zl];refine qG 3 (some 26) 142 #[v,.string (bs m.word)] (by kernel_rfl) rfl rfl (by rfl) (by kernel_rfl) (Qi ws m.word W2.drew v (hs2.below (zu (Below.refl _ W2))) hl) ?_;rintro e w4 ⟨rfl,rfl⟩;refine .inl ⟨_,rfl,hHeld,?_⟩;simp only[Act.put,zk,zj,zl];cases hc:ws.any (λy=>m.word==y)
  ·refine qG 6 (some 29) 86 #[.bool false,.int .i64 133,.int .i64 n.a] (by kernel_rfl) rfl rfl (by rfl) (by kernel_rfl) (qO 133 n.a W2.drew) ?_
   rintro e w5 ⟨rfl,rfl⟩;refine .inr ⟨_,rfl,?_⟩;exact⟨rfl,zu (hb1.trans (hBel.mono hb1.size)),by rw[if_neg (by rw[hc];decide)];rfl⟩
  ·refine qG 6 (some 29) 86 #[.bool true,.int .i64 133,.int .i64 n.a] (by kernel_rfl) rfl rfl (by rfl) (by kernel_rfl) (qa 133 n.a W2.drew) ?_
   rintro e w5 ⟨rfl,rfl⟩;refine .inl ⟨_,rfl,hHeld,?_⟩;simp only[Act.put,zk,zj,zl];refine wpAnyH_done (by kernel_rfl) ?_ _
   have pm:=(hm1.below hBel hm1.lt)
   have p0:=pm.cell 0;have p1:=pm.cell 1;have p2:=pm.cell 2;have g0:=pm.free 0;have g1:=pm.free 1;have g2:=pm.free 2;have m0:=hM3.cell 0;have m1:=hM3.cell 1;have m2:=hM3.cell 2;have lpm:=pm.lt;have lm3:=hM3.lt
   go_wp2
   refine QT rfl rfl (pm.set3 _ _ _) rfl ?_;have hb3:Below w.heap.size w W2:=hb1.trans (hBel.mono hb1.size);have hb4:=zby (g:=w.heap.size+1) (zu hb3) (Nat.le_succ _) (.string (bs m.word)) (.int .i64 (m.node:Nat)) (.slice Am m.bytes.length Cm);refine⟨hb4,?_⟩;exact⟨Am,Cm,rfl,am,bm,hby.keep hb4.size (λk hk hn=>⟨hb4.block k hk,hn.1⟩)⟩
end
section
open Go.ChangeShapes Go.WideShapes Go.ChangeAt Go.RowKit Go.MapKept
def putObj(w:World)(r:Nat)(o:Obj):World:={ w with heap:=w.heap.setIfInBounds r o }
theorem VW{P:Program}{w:World}{r:Nat}{x:Option Nat}{y z:Nat}{u:Array Nat}(o':Obj)(h:w.heap[r]?=some (.mapIter x y u z)):(setObj r o').run P w= .ok () (putObj w r o'):=by
 simp only[setObj,Sem.run,h];rfl
theorem ky(w:World):w.drewN 0=w:=rfl
theorem D9{P:Program}{w:World}(ty:TypeId){r bm since c0 clock:Nat}{seen:Array Nat}{es:Array MapEntry}(hr:w.heap[r]?=some (.mapIter (some bm) since seen c0))(hb:w.heap[bm]?=some (.map es clock))(hold:∀x ∈ es.toList,x.born<since)(hsc:since≤c0):
 ((leftOf es seen).size=0∧(Instr.next (.pointer (some ⟨r,0,none⟩)) false ty).run P w= .ok (.tuple #[.bool false]) w) ∨
 ∃e ∈ (leftOf es seen).toList,∃q,(Instr.next (.pointer (some ⟨r,0,none⟩)) false ty).run P w= .ok (.tuple #[.bool true,e.key,e.val]) (putObj (w.drewN q) r (.mapIter (some bm) since (seen.push e.born) clock)):=by
 have hl:∀x ∈ (leftOf es seen).toList,x.born<since:=by
  intro x hx;unfold leftOf at hx;simp only[Array.mem_toList_iff,Array.mem_filter]at hx;exact hold x (by simpa using hx.1)
 simp only[Instr.next,getObj,Sem.run_bind,Sem.run,hr,hb,Result.andThen,next_test_false seen es since c0 hold hsc,Bool.false_eq_true,if_false];rw[show Array.filter (λe=> !seen.contains e.born) es=leftOf es seen from rfl];generalize leftOf es seen=M at hl ⊢;have f1:Array.filter (λx=>decide (x.born<since)) M=M:=Array.filter_eq_self.2 λx hx=>by simpa using hl x (by simpa using hx)
 have f2:Array.filter (λx=>decide (x.born≥since)) M= #[]:=by
  rw[Array.filter_eq_empty_iff];intro x hx;have:=hl x (by simpa using hx);simp only[ge_iff_le,decide_eq_true_eq];omega
 simp only[f1,f2,Array.append_empty];rcases Nat.eq_zero_or_pos M.size with h0|h0
 ·refine .inl ⟨h0,?_⟩
  obtain rfl:M= #[]:=Array.eq_empty_of_size_eq_zero h0;simp[choose,Sem.run,Question.forced]
 ·refine .inr ?_
  have hne:M.isEmpty=false:=by
   cases h:M.isEmpty with
   |false=>rfl
   |true =>
    obtain rfl:M= #[]:=Array.isEmpty_iff.1 h;simp at h0
  have hch:∃(j q:Nat),j<M.size∧(choose (Question.mapNext M.size)).run P w= .ok j (w.drewN q):=by
   by_cases hf:M.size≤1
   ·exact⟨0,0,h0,by rw[ky];simp[choose,Sem.run,Question.forced,hf]⟩
   ·exact⟨_,1,Nat.mod_lt _ h0,by
     simp only[choose,Sem.run,Question.forced,decide_eq_true_eq,hf,if_false,Question.cut]
     rfl⟩
  obtain⟨j,q,hj,hrun⟩:=hch;refine⟨M[j],by simp,q,?_⟩;have hr2:(w.drewN q).heap[r]?=some (.mapIter (some bm) since seen c0):=hr;simp only[hne,Bool.false_eq_true,if_false,Array.empty_append,Array.size_map,hrun,Array.getElem?_map,Array.getElem?_eq_getElem hj,Option.map_some,Sem.run_bind,VW _ hr2,Result.andThen];rfl
theorem Fw{P:Program}{w:World}{r bm since clock:Nat}{seen:Array Nat}{es:Array MapEntry}{e:MapEntry}(hr:w.heap[r]?=some (.mapIter (some bm) since (seen.push e.born) clock))(hb:w.heap[bm]?=some (.map es clock))(he:e ∈ es.toList)(hn:(es.toList.map (·.born)).Nodup):
 (Instr.entry (.pointer (some ⟨r,0,none⟩))).run P w= .ok (.tuple #[e.key,e.val]) w:=by
 have hf:es.find? (·.born==e.born)=some e:=by rw[←Array.find?_toList];exact find_born e es.toList hn he
 simp only[Instr.entry,getObj,Sem.run_bind,Sem.run,hr,hb,Result.andThen,Array.back?_push,bne_self_eq_false,Bool.false_eq_true,if_false,hf];rfl
end
section
open Go.ChangeShapes Go.WideShapes Go.ChangeAt Go.RowKit Go.MapKept
variable {E:Nat→Prop}
theorem Js{o:Oper}{a:Act}(it:Operand)(ho:o.op= .next it false)(ht:o.type=0){w w':World}{r:Nat}{v:Value}(hx:a.eval it= .pointer (some ⟨r,0,none⟩))(h:(Instr.next (.pointer (some ⟨r,0,none⟩)) false 0).run Tryz.prog w= .ok v w'):(execOp a.eval o).run Tryz.prog w= .ok (.value v) w':=by
 unfold execOp;simp only[ho,hx,ht];simp[h,Result.andThen]
theorem YI{o:Oper}{a:Act}(it:Operand)(ho:o.op= .entry it){w:World}{r bm since clock:Nat}{seen:Array Nat}{es:Array MapEntry}{e:MapEntry}(hx:a.eval it= .pointer (some ⟨r,0,none⟩))(hr:w.heap[r]?=some (.mapIter (some bm) since (seen.push e.born) clock))(hb:w.heap[bm]?=some (.map es clock))(he:e ∈ es.toList)(hn:(es.toList.map (·.born)).Nodup):(execOp a.eval o).run Tryz.prog w= .ok (.value (.tuple #[e.key,e.val])) w:=by
 unfold execOp;simp only[ho,hx];simp[Fw hr hb he hn,Result.andThen]
theorem Xi{o:Oper}{a:Act}(x:Operand)(ho:o.op= .range 65 x){w:World}{bm clock:Nat}{es:Array MapEntry}(hx:a.eval x= .map (some bm))(hb:w.heap[bm]?=some (.map es clock)):(execOp a.eval o).run Tryz.prog w= .ok (.value (.pointer (some ⟨w.heap.size,0,none⟩))) (w.alloc (.mapIter (some bm) clock #[] clock)):=by
 unfold execOp;simp only[ho,hx];simp[run_range_map w 65 9 136 bm es clock Tryz.underlying65 hb,Result.andThen]
theorem FY{l:List Nat}{n:Nat}(hn:l.Nodup)(hb:∀i ∈ l,i<n):l.length≤n:=by
 have:=List.Nodup.length_le_of_subset hn (l₂:=List.range n) (λi hi=>List.mem_range.2 (hb i hi))
 simpa using this
theorem zaG{l:List Nat}{n:Nat}(hn:l.Nodup)(hb:∀i ∈ l,i<n)(ha:∀i,i<n→i ∈ l)(t:Nat→Bool):(l.filter t).length=((List.range n).filter t).length:=by
 have hp:l.Perm (List.range n):=(List.perm_ext_iff_of_nodup hn List.nodup_range).2 λi=>⟨λh=>List.mem_range.2 (hb i h),λh=>ha i (List.mem_range.1 h)⟩
 exact(hp.filter t).length_eq
theorem US(ns:xv)(ws:List (List UInt8)):vq ns ws=((List.range ns.length).filter λi=>ws.any (λy=>(ns[i]?.map (λx=>x.2.word)).getD []==y)).length:=by
 unfold vq
 induction ns with
 |nil=>rfl
 |cons x ns ih =>
  rw[List.length_cons,List.range_succ_eq_map,List.filter_cons,List.filter_cons,List.filter_map]
  have e:(List.filter ((λi=>ws.any λy=>((x::ns)[i]?.map (λx=>x.2.word)).getD []==y) ∘ Nat.succ) (List.range ns.length))=(List.range ns.length).filter λi=>ws.any (λy=>(ns[i]?.map (λx=>x.2.word)).getD []==y):=by
   apply List.filter_congr;intro i hi;simp
  rw[e];simp only[List.getElem?_cons_zero,Option.map_some,Option.getD_some]
  split
  ·simp[ih]
  ·simp[ih]
theorem Zg{w:World}{cb:Nat}{V:CV}{c:Ck}(h:zM E w cb V c)(ws:List (List UInt8))(v:Value)(hs:xV w v ws)(hl:ws.length≤100):Calls Tryz.prog 118 #[.pointer (some ⟨cb,0,none⟩),v] w λe w'=>e= .returned (.int .i64 (vq c.names ws:Nat))∧Below w.heap.size w w':=by
 obtain⟨us,e1,hmb,hin⟩:=h.nms;have c5:=h.has.cell 5;have lc:=h.has.lt;simp only[jg,jd,jf]at c5;have hfew:=h.few.2.1;rw[US]
 obtain⟨t,ht⟩:∃t:Nat→Bool,t=λi=>ws.any (λy=>(c.names[i]?.map (λx=>x.2.word)).getD []==y):=⟨_,rfl⟩
 rw[←ht]
 obtain⟨n,hn⟩:∃n,n=c.names.length:=⟨_,rfl⟩
 rw[←hn]at hmb hfew ⊢;have hmlt:V.mb<w.heap.size:=(Array.getElem?_eq_some_iff.1 hmb).1;have hH:=λi (hi:i<c.names.length)=>Qx e1 i hi
 have hword:∀i (hi:i<c.names.length),t i=ws.any (λy=>c.names[i].2.word==y):=λi hi=>by rw[ht];simp[hi]
 have hold:∀x ∈ (jm c.names us).toArray.toList,x.born<n:=λx hx=>by
  obtain⟨i,hi,rfl⟩:=Vj e1 (by simpa using hx);rw[hn];exact hi
 have hnd:((jm c.names us).toArray.toList.map (·.born)).Nodup:=by
  have :(jm c.names us).toArray.toList.map (·.born)=List.range c.names.length:=by
   apply List.ext_getElem?;intro i;by_cases hi:i<c.names.length
   ·simp[hH i hi,hi]
   ·simp[Qw e1,hi]
  rw[this];exact List.nodup_range
 have HT:Hid (∀i (hi:i<c.names.length),t i=ws.any (λy=>c.names[i].2.word==y)):=hword;have HOLD:Hid (∀x ∈ (jm c.names us).toArray.toList,x.born<n):=hold;have HND:Hid (((jm c.names us).toArray.toList.map (·.born)).Nodup):=hnd;have HGET:Hid (∀i (hi:i<c.names.length),(jm c.names us)[i]?=some { key:= .string (bs c.names[i].1),val:=X7 c.names[i].2 (us[i]'(by rw[e1];exact hi)),born:=i }):=hH
 obtain⟨W,hW⟩:∃W,W=w.alloc (.mapIter (some V.mb) n #[] n):=⟨_,rfl⟩
 have hWb:Below w.heap.size w W:=by rw[hW];exact zd w _
 have hWr:W.heap[w.heap.size]?=some (.mapIter (some V.mb) n #[] n):=by rw[hW];exact heap_alloc_new w _
 have HW:Hid (W=w.alloc (.mapIter (some V.mb) n #[] n)):=hW
 have HIN:Hid (∀i (hi:i<c.names.length),∃A C,us[i]'(by rw[e1];exact hi)=Value.slice A c.names[i].2.bytes.length C):=(λi hi=>by
  obtain⟨A,C,e,_⟩:=(hin i hi (by rw[e1];exact hi)).bytes
  exact⟨A,C,e⟩:∀i (hi:i<c.names.length),∃A C,us[i]'(by rw[e1];exact hi)=Value.slice A c.names[i].2.bytes.length C)
 have HN:Hid (n=c.names.length):=hn;clear ht hH hword hold hnd hin h hW hn;go_enter Tryz.func118,Tryz.ntmps118
 go_wp2_with (first
  |(refine zf 12 rfl ?_
    refine j1 (some 12) (.pointer (some ⟨w.heap.size,0,none⟩)) W rfl (by rfl) (by rw[HW.out];exact Xi _ rfl rfl hmb) ?_))
 go_loopw [5] (λz wr=>∃(seen:Array Nat) (k:Nat),z= .int .i64 (k:Nat)∧Below w.heap.size w wr∧wr.heap[w.heap.size]?=some (.mapIter (some V.mb) n seen n)∧Hid (seen.toList.Nodup∧(∀i ∈ seen.toList,i<n)∧k=(seen.toList.filter t).length)) (λ_ wz=>n-(wz.iterSeen w.heap.size).size)
 case atStart=>exact⟨#[],0,rfl,hWb,hWr,⟨by simp,by simp,rfl⟩⟩
 case round =>
  obtain⟨seen,k,rfl,hb,hr,HS⟩:=hrel;have hmb2:wr.heap[V.mb]?=some (.map (jm c.names us).toArray n):=(hb.block V.mb hmlt).trans hmb
  have hkn:k≤n:=by
   rw[HS.out.2.2];exact Nat.le_trans (List.length_filter_le _ _) (FY HS.out.1 HS.out.2.1)
  have HI:Hid ((wr.iterSeen w.heap.size).size=seen.size):=by
   have :wr.iterSeen w.heap.size=seen:=by unfold World.iterSeen;rw[hr]
   rw[this];exact rfl
  rcases D9 (P:=Tryz.prog) 0 hr hmb2 HOLD.out (Nat.le_refl n)with⟨h0,hnx⟩|⟨e,he,q,hnx⟩
  ·have hall:k=((List.range n).filter t).length:=by
    rw[HS.out.2.2];refine zaG HS.out.1 HS.out.2.1 (λi hi=>?_) t;cases hc:seen.contains i with
    |true=>simpa using hc
    |false =>
     have hg:=HGET.out i (by rw[←HN.out];exact hi)
     have hm:({ key:= .string (bs c.names[i].1),val:=X7 c.names[i].2 (us[i]'(by rw[e1,←HN.out];exact hi)),born:=i }:MapEntry) ∈ leftOf (jm c.names us).toArray seen:=by
      unfold leftOf;rw[Array.mem_filter];exact⟨by simpa using List.mem_of_getElem? hg,by simpa using hc⟩
     obtain⟨j,hj,_⟩:=Array.mem_iff_getElem.1 hm;omega
   have HA:Hid (k=((List.range n).filter t).length):=hall;clear hall HS
   go_wp2_with (first
    |(refine zf 13 rfl ?_
      refine zb (some 13) (.tuple #[.bool false]) rfl (by rfl) (Js _ rfl rfl rfl hnx) ?_))
   go_ret
   exact⟨by rw[←HA.out];rfl,hb⟩
  ·have hmem:e ∈ (jm c.names us).toArray.toList∧seen.contains e.born=false:=by
    unfold leftOf at he;simp only[Array.mem_toList_iff,Array.mem_filter]at he;exact⟨by simpa using he.1,by simpa using he.2⟩
   obtain⟨i,hi,hei⟩:=Vj e1 (by simpa using hmem.1);obtain⟨Au,Cu,hu⟩:=HIN.out i hi;have hin':i<n:=by rw[HN.out];exact hi
   have hti:=HT.out i hi;have hval:e.val= .agg #[.string (bs c.names[i].2.word),.int .i64 (c.names[i].2.node:Nat),.slice Au c.names[i].2.bytes.length Cu]:=by rw[hei];show X7 _ _=_;rw[hu];rfl
   have hborn:e.born=i:=by rw[hei]
   obtain⟨W1,hW1⟩:∃W1,W1=putObj (wr.drewN q) w.heap.size (.mapIter (some V.mb) n (seen.push e.born) n):=⟨_,rfl⟩
   have hrl:w.heap.size<wr.heap.size:=(Array.getElem?_eq_some_iff.1 hr).1;have hW1r:W1.heap[w.heap.size]?=some (.mapIter (some V.mb) n (seen.push e.born) n):=by rw[hW1];unfold putObj;simp[hrl]
   have hW1b:Below w.heap.size w W1:=by
    rw[hW1];exact⟨hb.os,hb.tape,hb.output,by unfold putObj;simpa using hb.size,λk hk=>by unfold putObj;simp only[Array.getElem?_setIfInBounds];rw[if_neg (by omega)];exact hb.block k hk⟩
   have hW1s:W1.heap.size=wr.heap.size:=by rw[hW1];unfold putObj;simp
   have hmb3:W1.heap[V.mb]?=some (.map (jm c.names us).toArray n):=(hW1b.block V.mb hmlt).trans hmb;have hen:=λ(o:Oper) (a:Act) (it:Operand) ho hx=>YI (o:=o) (a:=a) it ho hx hW1r hmb3 hmem.1 HND.out
   rw[←hW1]at hnx;rw[hval]at hnx hen;have HNX:Hid ((Instr.next (.pointer (some ⟨w.heap.size,0,none⟩)) false 0).run Tryz.prog wr= .ok (.tuple #[.bool true,e.key,.agg #[.string (bs c.names[i].2.word),.int .i64 (c.names[i].2.node:Nat),.slice Au c.names[i].2.bytes.length Cu]]) W1):=hnx;have HEN:Hid (∀(o:Oper) (a:Act) (it:Operand),o.op= .entry it→a.eval it= .pointer (some ⟨w.heap.size,0,none⟩)→(execOp a.eval o).run Tryz.prog W1= .ok (.value (.tuple #[e.key,.agg #[.string (bs c.names[i].2.word),.int .i64 (c.names[i].2.node:Nat),.slice Au c.names[i].2.bytes.length Cu]])) W1):=hen
   have HS2:Hid ((seen.push i).toList.Nodup∧(∀j ∈ (seen.push i).toList,j<n)∧(if t i then k+1 else k)=((seen.push i).toList.filter t).length):=by
    have hnc:i ∉ seen.toList:=by
     have:=hmem.2;rw[hborn]at this
     simpa using this
    refine⟨?_,?_,?_⟩
    ·rw[Array.toList_push,List.nodup_append]
     refine⟨HS.out.1,by simp,λa ha b hb=>?_⟩;rw[List.mem_singleton]at hb;rintro rfl;rw[hb]at ha;exact hnc ha
    ·intro j hj
     rw[Array.toList_push,List.mem_append,List.mem_singleton]at hj;rcases hj with hj|rfl
     ·exact HS.out.2.1 j hj
     ·exact hin'
    ·rw[Array.toList_push,List.filter_append,List.length_append,←HS.out.2.2]
     by_cases htt:t i=true
     ·rw[if_pos htt];simp[htt]
     ·rw[if_neg htt];simp[htt]
   have hsz:seen.size<n:=by
    have:=FY HS2.out.1 HS2.out.2.1;simp at this;omega
   rw[hborn]at hW1r;have hkx:(k:Int)≤100000:=by omega
   generalize c.names[i].2.word=wd at *;generalize ((c.names[i].2.node:Nat):Int)=nd at *;generalize c.names[i].2.bytes.length=bl at *;generalize e.key=ek at *;clear hnx hen HS hval hu he hmem hei hborn hW1 HND HOLD HGET HT HIN hr hmb2
   obtain⟨W2,hW2⟩:∃W2,W2=W1.alloc (.cells #[.string (bs wd),.int .i64 nd,.slice Au bl Cu] 136):=⟨_,rfl⟩
   have hcn:=Qi ws wd W2 v (hs.below (by rw[hW2];exact hW1b.alloc (by omega) _)) hl;have hr2:W2.heap[w.heap.size]?=some (.mapIter (some V.mb) n (seen.push i) n):=by rw[hW2];exact(Below.heap_alloc W1 _ _ (by omega)).trans hW1r
   have hb2:Below w.heap.size w W2:=by rw[hW2];exact hW1b.alloc (by omega) _
   have HI2:Hid ((W2.iterSeen w.heap.size).size=seen.size+1):=by
    have :W2.iterSeen w.heap.size=seen.push i:=by unfold World.iterSeen;rw[hr2]
    rw[this];simp;exact trivial
   rw[←hti]at hcn;rw[hW2]at hcn;have HW2:Hid (W2=W1.alloc (.cells #[.string (bs wd),.int .i64 nd,.slice Au bl Cu] 136)):=hW2;clear hW2 hti;cases htt:t i
   all_goals
    rw[htt]at hcn;have HS3:=HS2.out;rw[htt]at HS3;have HS4:Hid _:=HS3;clear HS3 HS2
    go_wp2_with (first
     |(refine zf 13 rfl ?_
       refine j1 (some 13) _ W1 rfl (by rfl) (Js _ rfl rfl rfl HNX.out) ?_)
     |(refine zf 15 rfl ?_
       refine zb (some 15) _ rfl (by rfl) (HEN.out _ _ _ rfl rfl) ?_)
     |((go_at_call 142)
       refine hcn.mono ?_;rintro e w' ⟨rfl,hw'⟩;(obtain rfl:_=w':=hw'.symm)))
    rw[←HW2.out]
    go_roundw
    case rel=>exact⟨seen.push i,_,by go_num,hb2,hr2,HS4⟩
    case measure=>rw[HI2.out,HI.out];omega
end
section
open Go.ChangeShapes Go.WideShapes Go.ChangeAt Go.RowKit Go.MapKept
variable {E:Nat→Prop}
theorem ZN{w:World}(l:List (List UInt8))(cs:Array Value)(h:(l.map λx=>Value.string (bs x)).toArray=cs):xV (w.alloc (.cells cs 9)) (.slice (some ⟨w.heap.size,0,none⟩) l.length l.length) l:=by
 subst h;exact .inr ⟨w.heap.size,rfl,ze.new _ _ _⟩
theorem KH{w:World}{cb:Nat}{V:CV}{c:Ck}(h:zM E w cb V c):Calls Tryz.prog 87 #[.pointer (some ⟨cb,0,none⟩),.string (bs zc)] w λe w'=>e= .returned (.bool (full c.names zc))∧Below w.heap.size w w':=by
 have ha:=Zg (h.alloc (.cells #[.string ⟨#[100,101,118,105,99,101]⟩,.string ⟨#[106,111,117,114,110,97,108]⟩] 9)) [zc,zg] _ (ZN [zc,zg] #[.string ⟨#[100,101,118,105,99,101]⟩,.string ⟨#[106,111,117,114,110,97,108]⟩] rfl) (by decide);rw[show full c.names zc=(vq c.names [zc,zg]==8)from rfl];generalize vq c.names [zc,zg]=m at ha ⊢;rw[show bs zc=⟨#[100,101,118,105,99,101]⟩from rfl]
 have hq:(((m:Nat):Int)==8)=(m==8):=by
  rw[Bool.eq_iff_iff];simp only[beq_iff_eq];omega
 have HQ:Hid ((((m:Nat):Int)==8)=(m==8)):=hq;clear hq;go_enter Tryz.func87,Tryz.ntmps87
 go_wp2_with (first
  |((go_at_call 118)
    refine ha.mono ?_;(rintro e w1 ⟨rfl,hb⟩)))
 go_ret
 refine⟨?_,(zd w _).trans (hb.mono (by simp))⟩
 first
  |rfl
  |(rw[←HQ.out];rfl)
  |(congr 1)
theorem YJ{w:World}{cb:Nat}{V:CV}{c:Ck}(h:zM E w cb V c):Calls Tryz.prog 87 #[.pointer (some ⟨cb,0,none⟩),.string (bs zg)] w λe w'=>e= .returned (.bool (full c.names zg))∧Below w.heap.size w w':=by
 have ha:=Zg (h.alloc (.cells #[.string ⟨#[100,101,118,105,99,101]⟩,.string ⟨#[106,111,117,114,110,97,108]⟩] 9)) [zc,zg] _ (ZN [zc,zg] #[.string ⟨#[100,101,118,105,99,101]⟩,.string ⟨#[106,111,117,114,110,97,108]⟩] rfl) (by decide);rw[show full c.names zg=(vq c.names [zc,zg]==8)from rfl];generalize vq c.names [zc,zg]=m at ha ⊢;rw[show bs zg=⟨#[106,111,117,114,110,97,108]⟩from rfl]
 have hq:(((m:Nat):Int)==8)=(m==8):=by
  rw[Bool.eq_iff_iff];simp only[beq_iff_eq];omega
 have HQ:Hid ((((m:Nat):Int)==8)=(m==8)):=hq;clear hq;go_enter Tryz.func87,Tryz.ntmps87
 go_wp2_with (first
  |((go_at_call 118)
    refine ha.mono ?_;(rintro e w1 ⟨rfl,hb⟩)))
 go_ret
 refine⟨?_,(zd w _).trans (hb.mono (by simp))⟩
 first
  |rfl
  |(rw[←HQ.out];rfl)
  |(congr 1)
theorem fk{w:World}{cb:Nat}{V:CV}{c:Ck}(h:zM E w cb V c):Calls Tryz.prog 87 #[.pointer (some ⟨cb,0,none⟩),.string (bs zT)] w λe w'=>e= .returned (.bool (full c.names zT))∧Below w.heap.size w w':=by
 have ha:=Zg (h.alloc (.cells #[.string ⟨#[107,101,121]⟩,.string ⟨#[114,111,111,116]⟩] 9)) [zT,zD] _ (ZN [zT,zD] #[.string ⟨#[107,101,121]⟩,.string ⟨#[114,111,111,116]⟩] rfl) (by decide);rw[show full c.names zT=(vq c.names [zT,zD]==8)from rfl];generalize vq c.names [zT,zD]=m at ha ⊢;rw[show bs zT=⟨#[107,101,121]⟩from rfl]
 have hq:(((m:Nat):Int)==8)=(m==8):=by
  rw[Bool.eq_iff_iff];simp only[beq_iff_eq];omega
 have HQ:Hid ((((m:Nat):Int)==8)=(m==8)):=hq;clear hq;go_enter Tryz.func87,Tryz.ntmps87
 go_wp2_with (first
  |((go_at_call 118)
    refine ha.mono ?_;(rintro e w1 ⟨rfl,hb⟩)))
 go_ret
 refine⟨?_,(zd w _).trans (hb.mono (by simp))⟩
 first
  |rfl
  |(rw[←HQ.out];rfl)
  |(congr 1)
theorem gD{w:World}{cb:Nat}{V:CV}{c:Ck}(h:zM E w cb V c):Calls Tryz.prog 87 #[.pointer (some ⟨cb,0,none⟩),.string (bs zD)] w λe w'=>e= .returned (.bool (full c.names zD))∧Below w.heap.size w w':=by
 have ha:=Zg (h.alloc (.cells #[.string ⟨#[107,101,121]⟩,.string ⟨#[114,111,111,116]⟩] 9)) [zT,zD] _ (ZN [zT,zD] #[.string ⟨#[107,101,121]⟩,.string ⟨#[114,111,111,116]⟩] rfl) (by decide);rw[show full c.names zD=(vq c.names [zT,zD]==8)from rfl];generalize vq c.names [zT,zD]=m at ha ⊢;rw[show bs zD=⟨#[114,111,111,116]⟩from rfl]
 have hq:(((m:Nat):Int)==8)=(m==8):=by
  rw[Bool.eq_iff_iff];simp only[beq_iff_eq];omega
 have HQ:Hid ((((m:Nat):Int)==8)=(m==8)):=hq;clear hq;go_enter Tryz.func87,Tryz.ntmps87
 go_wp2_with (first
  |((go_at_call 118)
    refine ha.mono ?_;(rintro e w1 ⟨rfl,hb⟩)))
 go_ret
 refine⟨?_,(zd w _).trans (hb.mono (by simp))⟩
 first
  |rfl
  |(rw[←HQ.out];rfl)
  |(congr 1)
theorem Ko{w:World}{cb:Nat}{V:CV}{c:Ck}(h:zM E w cb V c):Calls Tryz.prog 87 #[.pointer (some ⟨cb,0,none⟩),.string (bs zp)] w λe w'=>e= .returned (.bool (full c.names zp))∧Below w.heap.size w w':=by
 have ha:=Zg (h.alloc (.cells #[.string ⟨#[118,111,108,117,109,101]⟩] 9)) [zp] _ (ZN [zp] #[.string ⟨#[118,111,108,117,109,101]⟩] rfl) (by decide);rw[show full c.names zp=(vq c.names [zp]==16)from rfl];generalize vq c.names [zp]=m at ha ⊢;rw[show bs zp=⟨#[118,111,108,117,109,101]⟩from rfl]
 have hq:(((m:Nat):Int)==16)=(m==16):=by
  rw[Bool.eq_iff_iff];simp only[beq_iff_eq];omega
 have HQ:Hid ((((m:Nat):Int)==16)=(m==16)):=hq;clear hq;go_enter Tryz.func87,Tryz.ntmps87
 go_wp2_with (first
  |((go_at_call 118)
    refine ha.mono ?_;(rintro e w1 ⟨rfl,hb⟩)))
 go_ret
 refine⟨?_,(zd w _).trans (hb.mono (by simp))⟩
 first
  |rfl
  |(rw[←HQ.out];rfl)
  |(congr 1)
theorem Fr{w:World}{cb:Nat}{V:CV}{c:Ck}(h:zM E w cb V c)(op:List UInt8)(ho:op=zc∨op=zg∨op=zT∨op=zD∨op=zp):Calls Tryz.prog 87 #[.pointer (some ⟨cb,0,none⟩),.string (bs op)] w λe w'=>e= .returned (.bool (full c.names op))∧Below w.heap.size w w':=by
 rcases ho with rfl|rfl|rfl|rfl|rfl
 ·exact KH h
 ·exact YJ h
 ·exact fk h
 ·exact gD h
 ·exact Ko h
end
section
open Go.ChangeShapes Go.WideShapes Go.ChangeAt Go.RowKit Go.MapKept
structure kn (t e size bytes:Nat):Prop where
 ut:Tryz.prog.underlying t=some (.slice e)
 info:∃z:Value,(Tryz.prog.info? e).map (λi=>(i.zero,i.size,i.bytes))=some (some z,size,bytes)∧z.cells.size=size
 pos:0<size
 small:bytes≤1000
theorem jP{t e size bytes:Nat}(K:kn t e size bytes){ty:TypeId}(w:World)(base n:Nat)(v:Value)(xs:List Value)(hrow:w.ownsRow base e size v n xs)(hbase:base≤w.heap.size)(hlen:n≤1000000)(news:List Value)(hl:news.length=size)(h1:∀u ∈ news,u.oneCell'=true)(G:Nat)(hG:ze w G e news.toArray):
 ∃A' C' w',(Builtin.append_ #[t,t] ty #[v,.slice (some ⟨G,0,none⟩) 1 1]).run Tryz.prog w= .ok (.slice A' (n+1) C') w'∧w'.ownsRow base e size (.slice A' (n+1) C') (n+1) (xs++news)∧w.grownBy w' v.ownBlock∧((Value.slice A' (n+1) C').ownBlock=v.ownBlock∨(Value.slice A' (n+1) C').ownBlock=some w.heap.size):=by
 obtain⟨z,hz,hzs⟩:=K.info;obtain⟨i0,hi,hz0,hz1,hz2⟩:=info_parts hz;have hp:=K.pos
 have hnews:∀j u,news[j]?=some u→w.cell? ((⟨G,0,none⟩:Addr).add j)=some u:=by
  intro j u hj;have:=hG.cell j;rw[show(⟨G,0,none⟩:Addr).add j=⟨G,j,none⟩ by simp[Addr.add];omega];rw[this]
  simpa using hj
 have hsm:(n+1)*bytes≤140737488355328:=by
  have :(n+1)*bytes≤1000001*1000:=Nat.mul_le_mul (by omega) K.small;omega
 obtain⟨v',w',hr,h2,h3,h4⟩:=run_append_own (P:=Tryz.prog) w base t ty e i0 z size bytes K.ut hi hz0 hz1 hz2 hzs hp v n xs hrow ⟨G,0,none⟩ 1 1 news (by omega) hnews h1 (by unfold maxLen;omega) hsm hbase;have hwh:=Zo (P:=Tryz.prog) K.ut hi hz0 hz1 hp hrow (ad:=⟨G,0,none⟩) (m:=1) (c:=1) (news:=news) (by omega) hnews h1 (by unfold maxLen;omega) (by rw[hz2];exact hsm) (by decide) hr
 obtain⟨A',C',e'⟩:∃A' C',v'= .slice A' (n+1) C':=by
  rcases h2.2 with⟨_,h0⟩|⟨g,cap,cur,rfl,_⟩
  ·omega
  ·exact⟨_,_,rfl⟩
 subst e';exact⟨A',C',w',hr,h2,h3,hwh⟩
theorem jO{t:TypeId}{o:Oper}{a:Act}(s x:Operand)(ho:o.op= .call { callee:= .builtin .append,args:=#[s,x],argTypes:=#[t,t] }){w w':World}{v y v':Value}(hs:a.eval s=v)(hx:a.eval x=y)(hr:(Builtin.append_ #[t,t] o.type #[v,y]).run Tryz.prog w= .ok v' w'):(execOp a.eval o).run Tryz.prog w= .ok (.value v') w':=by
 unfold execOp;simp only[ho,resolve,invoke,builtin,Sem.run_bind,Sem.run_pure,Result.andThen_ok,List.map_toArray,List.map_cons,List.map_nil,hs,hx,hr]
theorem zaU:kn 40 42 3 24:=⟨Tryz.underlying40,⟨.agg #[.int .i64 0,.int .i64 0,.int .i64 0],by kernel_rfl,rfl⟩,by decide,by decide⟩
theorem Dh:kn 29 3 1 8:=⟨Tryz.underlying29,⟨.int .i64 0,by kernel_rfl,rfl⟩,by decide,by decide⟩
theorem Ul:kn 66 4 1 1:=⟨Tryz.underlying66,⟨.bool false,by kernel_rfl,rfl⟩,by decide,by decide⟩
theorem U9:kn 30 47 8 112:=⟨Tryz.underlying30,⟨.agg #[.int .i64 0,.int .i64 0,.slice none 0 0,.int .i64 0,.int .i64 0,.int .i64 0,.slice none 0 0,.slice none 0 0],by kernel_rfl,rfl⟩,by decide,by decide⟩
theorem zQ{w w':World}{v:Value}{g t:Nat}{cs:Array Value}(h:ze w g t cs)(hg:w.grownBy w' v.ownBlock)(hn:v.ownBlock≠some g):ze w' g t cs:=(hg.block g h.lt (λe=>hn e.symm)).trans h
def yP(w:World)(B:Nat)(A:Option Addr)(ps:List Pt):Prop:=∀i (h:i<ps.length),∃g off u,A=some ⟨g,off,none⟩∧g<B∧g<w.heap.size∧(∀j,j<8→w.cell? ⟨g,off+i*8+j,none⟩=(uW ps[i] u)[j]?)∧Qk w (λg=>g<B) ps[i] u
theorem yP.keep{w w':World}{B:Nat}{A:Option Addr}{ps:List Pt}(h:yP w B A ps)(hb:Below B w w'):yP w' B A ps:=by
 intro i hi;obtain⟨g,off,u,e,h1,h2,h3,h4⟩:=h i hi;exact⟨g,off,u,e,h1,Nat.lt_of_lt_of_le h2 hb.size,λj hj=>(hb.cell (p:=⟨g,off+i*8+j,none⟩) h1).trans (h3 j hj),h4.keep hb.size λk hk hB=>⟨hb.block k hB,hB⟩⟩
def fp(l:List R3):List Value:=l.flatMap λr=> [.int .i64 r.d,.int .i64 r.f,.int .i64 r.c]
structure vi (w:World) (fb:Nat) (A:Option Addr) (C:Nat) (ps:List Pt) (v:Value) (out:List R3):Prop where
 has:ze w fb 78 #[.slice A ps.length C,v]
 row:w.ownsRow (fb+1) 42 3 v out.length (fp out)
 pts:yP w fb A ps
 cap:ps.length≤C∧C≤maxLen
 few:out.length≤257
structure ye (fb:Nat) (v:Value) (w:World) (v':Value) (w':World):Prop where
 only :vM (λk=>k=fb∨v.ownBlock=some k) w w'
 new:∀k,v'.ownBlock=some k→v.ownBlock=some k∨w.heap.size≤k
theorem ye.refl(fb:Nat)(v:Value)(w:World):ye fb v w v w:=⟨.refl _ _,λ_ h=> .inl h⟩
theorem ye.trans{fb:Nat}{v v1 v2:Value}{w w1 w2:World}(h:ye fb v w v1 w1)(k:ye fb v1 w1 v2 w2):ye fb v w v2 w2:=by
 refine⟨⟨k.only.os.trans h.only.os,k.only.tape.trans h.only.tape,k.only.output.trans h.only.output,Nat.le_trans h.only.size k.only.size,λi hi hn=>?_⟩,λi hi=>?_⟩
 ·refine(k.only.block i (Nat.lt_of_lt_of_le hi h.only.size) (λe=>?_)).trans (h.only.block i hi hn)
  rcases e with e|e
  ·exact hn (.inl e)
  ·rcases h.new i e with e'|e'
   ·exact hn (.inr e')
   ·omega
 ·rcases k.new i hi with e|e
  ·exact h.new i e
  ·exact .inr (Nat.le_trans h.only.size e)
theorem vi.low{w:World}{fb:Nat}{A:Option Addr}{C:Nat}{ps:List Pt}{v:Value}{out:List R3}(h:vi w fb A C ps v out){k:Nat}(hk:k=fb∨v.ownBlock=some k):fb≤k∧k<w.heap.size:=by
 rcases hk with rfl|e
 ·exact⟨Nat.le_refl _,h.has.lt⟩
 ·have:=qy h.row e
  omega
theorem vi.keep{w w':World}{fb:Nat}{A:Option Addr}{C:Nat}{ps:List Pt}{v:Value}{out:List R3}(h:vi w fb A C ps v out)(hb:Below w.heap.size w w'):vi w' fb A C ps v out:=
 ⟨h.has.below hb h.has.lt,zI h.row (λg o e ho=>(hb.block g (Array.getElem?_eq_some_iff.1 ho).1).trans ho),h.pts.keep (hb.mono (Nat.le_of_lt h.has.lt)),h.cap,h.few⟩
theorem ye.below{fb:Nat}{v v':Value}{w w':World}(h:ye fb v w v' w')(hl:∀k,v.ownBlock=some k→fb≤k)(hfb:fb≤w.heap.size):Below fb w w':=h.only.below hfb λk hk=>by
 rcases hk with rfl|e
 ·exact Nat.le_refl _
 ·exact hl k e
theorem ye.of{fb:Nat}{v:Value}{w w':World}(h:Below w.heap.size w w'):ye fb v w v w':=⟨.of h,λ_ e=> .inl e⟩
theorem dO(l:List R3)(r:R3):fp (l++ [r])=fp l++ [.int .i64 r.d,.int .i64 r.f,.int .i64 r.c]:=by simp[fp]
theorem vi.put{W1 w6:World}{fb:Nat}{A:Option Addr}{C:Nat}{ps:List Pt}{v:Value}{out:List R3}(h:vi W1 fb A C ps v out){r:R3}{A6:Option Addr}{C6:Nat}(ho:¬256<out.length)(hF6:ze w6 fb 78 #[.slice A ps.length C,v])(hrow:w6.ownsRow (fb+1) 42 3 (.slice A6 (out.length+1) C6) (out.length+1) (fp out++ [.int .i64 r.d,.int .i64 r.f,.int .i64 r.c]))(hO:vM (λk=>k=fb∨v.ownBlock=some k) W1 w6):vi (w6.setCell ⟨fb,1,none⟩ (.slice A6 (out.length+1) C6)) fb A C ps (.slice A6 (out.length+1) C6) (out++ [r]):=by
 have hb:Below fb W1 w6:=hO.below (Nat.le_of_lt h.has.lt) λk hk=>(h.low hk).1
 refine⟨hF6.putP 1 _,?_,(h.pts.keep hb).keep ((Below.refl fb w6).setCell (p:=⟨fb,1,none⟩) (Nat.le_refl _) _),h.cap,by simp;omega⟩;rw[dO,List.length_append,List.length_singleton];exact zI hrow (λg o e ho=>(Below.heap_setCell w6 ⟨fb,1,none⟩ _ g (by have:=(qy hrow e).2;show g≠fb;omega)).trans ho)
structure XE (ps:List Pt):Prop where
 kids:∀i,i<ps.length→∀k ∈ (zK ps i).kids,k<i
 size:∀i,i<ps.length→sz ps i≤8192
 first:∀i,i<ps.length→(zK ps i).first≤1000000000
 snap:∀i,i<ps.length→(zK ps i).kind=5→(zK ps i).kids.length=2
 one:∀i,i<ps.length→((zK ps i).kind=7∨(zK ps i).kind=8)→1≤(zK ps i).kids.length
 few:∀i,i<ps.length→(zK ps i).kids.length≤1000
 kind:∀i,i<ps.length→1≤(zK ps i).kind∧(zK ps i).kind≤8
theorem vc{ps:List Pt}{i:Nat}(h:i<ps.length):zK ps i=ps[i]:=by
 unfold zK;rw[List.getD_eq_getElem?_getD,List.getElem?_eq_getElem h];rfl
theorem qn{o:Oper}{a:Act}(x i:Operand)(ho:o.op= .indexAddr 30 x i)(g off k n cap:Nat)(hx:a.eval x= .slice (some ⟨g,off,none⟩) n cap)(hi:a.eval i= .int .i64 (k:Nat))(hk:k<n)(w:World):(execOp a.eval o).run Tryz.prog w= .ok (.value (.pointer (some ⟨g,off+k*8,none⟩))) w:=by
 unfold execOp;obtain⟨i0,hq,hz0,hz,hz2⟩:=info_parts (show(Tryz.prog.info? 47).map (λi=>(i.zero,i.size,i.bytes))=some (some (.agg #[.int .i64 0,.int .i64 0,.slice none 0 0,.int .i64 0,.int .i64 0,.int .i64 0,.slice none 0 0,.slice none 0 0]),8,112) by kernel_rfl);simp only[ho,hx,hi];simp[Instr.indexAt,Instr.sureAddr,run_underlying Tryz.underlying30,asIntOf,sizeOf,typeInfo,hq,hz,Addr.add_mid,go_sem];intro h;omega
theorem QQ{w:World}{fb:Nat}{A:Option Addr}{C:Nat}{ps:List Pt}{v:Value}{out:List R3}(h:vi w fb A C ps v out)(hwf:XE ps)(p f c:Int)(hp:qe p)(hf:qe f)(hc:qe c):Calls Tryz.prog 61 #[.pointer (some ⟨fb,0,none⟩),.int .i64 p,.int .i64 f,.int .i64 c] w λe w'=>e= .returned (.bool (jJ ps p f c))∧Below w.heap.size w w':=by
 have c0:=h.has.cell 0;have lc:=h.has.lt;simp only[List.getElem?_toArray,List.getElem?_cons_zero]at c0;have hcap:ps.length≤C∧C≤9223372036854775807:=h.cap;by_cases h1:p<0
 ·have e:jJ ps p f c=false:=by unfold jJ;rw[decide_eq_false_iff_not];omega
  rw[e];have hd:decide (p<0)=true:=decide_eq_true h1;clear h e;go_enter Tryz.func61,Tryz.ntmps61
  go_wp2
  go_ret
  exact⟨rfl,Below.refl _ _⟩
 ·obtain⟨k,rfl⟩:∃k:Nat,p=(k:Nat):=⟨p.toNat,by omega⟩
  by_cases h2:k<ps.length
  ·obtain⟨g,off,u,rfl,hg0,hg,hcell,hpi⟩:=h.pts k h2
   have hsz:=hwf.size k h2;have hs1:=hcell 1 (by decide);have hpt:=vc h2;have hse:sz ps k=ps[k].size:=by unfold sz;rw[hpt]
   simp only[uW,List.getElem?_toArray,List.getElem?_cons_zero,List.getElem?_cons_succ]at hs1;rw[←hse]at hs1
   have e:jJ ps (k:Nat) f c=(decide (0≤f)&&decide (0<c)&&decide (f≤(sz ps k:Int)-c)):=by
    unfold jJ;rw[Bool.eq_iff_iff];simp only[decide_eq_true_eq,Bool.and_eq_true,Int.toNat_natCast];omega
   rw[e];generalize sz ps k=S at *;clear h hcell hpt hse e hwf hpi;generalize ps.length=L at *;have hk1:¬((k:Nat):Int)<0:=by omega
   have hk2:(k:Int)<(L:Int):=by omega
   obtain⟨hc1,hc2⟩:=hc;obtain⟨hf1,hf2⟩:=hf;by_cases h3:0≤f
   ·by_cases h4:0<c
    ·have hx1: -9223372036854775808≤(S:Int)-c:=by omega
     have hx2:(S:Int)-c≤9223372036854775807:=by omega
     have hd1:decide (0≤f)=true:=decide_eq_true h3;have hd2:decide (0<c)=true:=decide_eq_true h4;rw[hd1,hd2];go_enter Tryz.func61,Tryz.ntmps61
     go_wp2
     go_ret
     exact⟨rfl,Below.refl _ _⟩
    ·have hd1:decide (0≤f)=true:=decide_eq_true h3
     have hd2:decide (0<c)=false:=decide_eq_false h4;rw[hd1,hd2];go_enter Tryz.func61,Tryz.ntmps61
     go_wp2
     go_ret
     exact⟨rfl,Below.refl _ _⟩
   ·have hd1:decide (0≤f)=false:=decide_eq_false h3
    rw[hd1];go_enter Tryz.func61,Tryz.ntmps61
    go_wp2
    go_ret
    exact⟨rfl,Below.refl _ _⟩
  ·have e:jJ ps (k:Nat) f c=false:=by unfold jJ;rw[decide_eq_false_iff_not];omega
   rw[e];clear h e hwf;generalize ps.length=L at *;have hk1:¬((k:Nat):Int)<0:=by omega
   have hk2:¬(k:Int)<(L:Int):=by omega
   go_enter Tryz.func61,Tryz.ntmps61
   go_wp2
   go_ret
   exact⟨rfl,Below.refl _ _⟩
def vm(w:World)(fb:Nat)(A:Option Addr)(C:Nat)(ps:List Pt)(v:Value)(out':List R3)(e:Ending)(w':World):Prop:=∃v',e= .returned (.tuple #[])∧vi w' fb A C ps v' out'∧ye fb v w v' w'
theorem yK{w:World}{fb:Nat}{A:Option Addr}{ps:List Pt}(h:yP w fb A ps){k:Nat}(hk:k<ps.length):∃g off Ak Ck A2 n2 C2 A3 n3 C3,A=some ⟨g,off,none⟩∧g<fb∧g<w.heap.size∧Zs w (λg=>g<fb) Ak (zK ps k).kids∧(zK ps k).kids.length≤Ck∧Ck≤maxLen∧∀j,j<8→w.cell? ⟨g,off+k*8+j,none⟩=(#[.int .i64 ((zK ps k).kind:Nat),.int .i64 ((zK ps k).size:Nat),.slice Ak (zK ps k).kids.length Ck,.int .i64 ((zK ps k).dev:Nat),.int .i64 ((zK ps k).first:Nat),.int .i64 ((zK ps k).chunk:Nat),.slice A2 n2 C2,.slice A3 n3 C3]:Array Value)[j]?:=by
 obtain⟨g,off,⟨u1,u2,u3⟩,e,h1,h2,h3,⟨⟨A1,C1,e1,a1,b1,i1⟩,⟨A2,C2,e2,_⟩,⟨A3,C3,e3,_⟩⟩⟩:=h k hk;rw[vc hk];simp only at e1 e2 e3;subst e1 e2 e3;exact⟨g,off,A1,C1,A2,_,C2,A3,_,C3,e,h1,h2,i1,a1,b1,h3⟩
theorem qS{o:Oper}{a:Act}(x:Operand)(ho:o.op= .load 47 x)(g p:Nat)(hx:a.eval x= .pointer (some ⟨g,p,none⟩)){x0 x1 x2 x3 x4 x5 x6 x7:Value}(w:World)(h:∀j,j<8→w.cell? ⟨g,p+j,none⟩=(#[x0,x1,x2,x3,x4,x5,x6,x7]:Array Value)[j]?):(execOp a.eval o).run Tryz.prog w= .ok (.value (.agg #[x0,x1,x2,x3,x4,x5,x6,x7])) w:=by
 have q0:=h 0 (by decide);have q1:=h 1 (by decide);have q2:=h 2 (by decide);have q3:=h 3 (by decide);have q4:=h 4 (by decide);have q5:=h 5 (by decide);have q6:=h 6 (by decide);have q7:=h 7 (by decide);simp only[Nat.add_zero]at q0;simp only[jg,jd,jf]at q0 q1 q2 q3 q4 q5 q6 q7;unfold execOp;simp only[ho,hx];go_simp
theorem YL{ps:List Pt}{d:Nat}{out:List R3}{k:Nat}{f c:Int}(h:256<out.length∨jJ ps k f c=false):vS ps d out k f c=out:=by
 cases d with
 |zero=>rfl
 |succ d=>show(if _ then _ else _)=_;rw[if_pos h]
theorem Y3{ps:List Pt}{d:Nat}{out:List R3}{k:Nat}{f c:Int}(h1:¬256<out.length)(h2:jJ ps k f c=true):vS ps (d+1) out k f c=yj ps (vS ps d) out (zK ps k) f c:=by
 show(if _ then _ else _)=_;rw[if_neg (by rw[h2];simp;omega)]
theorem xj{ps:List Pt}{k:Nat}{f c:Int}(h:jJ ps k f c=true):k<ps.length∧0≤f∧0<c∧f+c≤(sz ps k:Int):=by
 unfold jJ at h;simp only[decide_eq_true_eq,Int.toNat_natCast]at h;omega
theorem ke{w:World}{fb:Nat}{A:Option Addr}{C:Nat}{ps:List Pt}{v:Value}{out:List R3}(h:vi w fb A C ps v out)(hwf:XE ps)(k f c:Int)(hk:qe k)(hf:qe f)(hc:qe c)(hno:256<out.length∨jJ ps k f c=false):Calls Tryz.prog 30 #[.pointer (some ⟨fb,0,none⟩),.int .i64 k,.int .i64 f,.int .i64 c] w (vm w fb A C ps v out):=by
 have hh:=QQ h hwf k f c hk hf hc;have hR:=h
 obtain⟨Av,Cv,rfl⟩:∃Av Cv,v= .slice Av out.length Cv:=by
  rcases h.row.2 with⟨rfl,h0⟩|⟨g,cap,cur,rfl,_⟩
  ·exact⟨none,0,by rw[h0]⟩
  ·exact⟨_,_,rfl⟩
 have c1:=h.has.cell 1;have lc:=h.has.lt;simp only[jg,jd,jf]at c1;have hfew:=h.few;by_cases ho:256<out.length
 ·have hoo:(256:Int)<(out.length:Int):=by omega
  have hd:decide ((256:Int)<(out.length:Int))=true:=decide_eq_true hoo;clear h;go_enter Tryz.func30,Tryz.ntmps30
  go_wp2
  refine bodyPost_ret (results_none rfl _ _ _) rfl ?_;exact⟨_,rfl,hR,ye.refl _ _ _⟩
 ·have hn:jJ ps k f c=false:=hno.resolve_left ho
  rw[hn]at hh;have hoo:¬(256:Int)<(out.length:Int):=by omega
  clear h;go_enter Tryz.func30,Tryz.ntmps30
  go_wp2_with (first
   |((go_at_call 61)
     refine hh.mono ?_;(rintro e w1 ⟨rfl,hb1⟩)))
  refine bodyPost_ret (results_none rfl _ _ _) rfl ?_;exact⟨_,rfl,hR.keep hb1,ye.of hb1⟩
theorem GW{w:World}{fb:Nat}{A:Option Addr}{C:Nat}{ps:List Pt}{v:Value}{out:List R3}(h:vi w fb A C ps v out)(hwf:XE ps)(d k:Nat)(f c:Int)(ho:¬256<out.length)(hh:jJ ps k f c=true)(hkind:(zK ps k).kind=1)
 (hx:∀(W:World) (v:Value) (out:List R3) (j:Nat) (f c:Int),vi W fb A C ps v out→j<k→qe f→qe c→Calls Tryz.prog 30 #[.pointer (some ⟨fb,0,none⟩),.int .i64 (j:Nat),.int .i64 f,.int .i64 c] W (vm W fb A C ps v (vS ps d out j f c))):
 Calls Tryz.prog 30 #[.pointer (some ⟨fb,0,none⟩),.int .i64 (k:Nat),.int .i64 f,.int .i64 c] w (vm w fb A C ps v (yj ps (vS ps d) out (zK ps k) f c)):=by
 have hR:=h;obtain⟨hkl,hf0,hc0,hfc⟩:=xj hh;have hsz:=hwf.size k hkl;have hfi:=hwf.first k hkl;have hkl2:=hwf.few k hkl;have hkids:=hwf.kids k hkl;have hcap:ps.length≤C∧C≤9223372036854775807:=h.cap
 have hkk:qe (k:Nat):=⟨by omega,by omega⟩
 have hf:qe f:=⟨by omega,by omega⟩
 have hc:qe c:=⟨by omega,by omega⟩
 have hhas:=QQ h hwf (k:Nat) f c hkk hf hc;rw[hh]at hhas
 obtain⟨Av,Cv,rfl⟩:∃Av Cv,v= .slice Av out.length Cv:=by
  rcases h.row.2 with⟨rfl,h0⟩|⟨g,cap,cur,rfl,_⟩
  ·exact⟨none,0,by rw[h0]⟩
  ·exact⟨_,_,rfl⟩
 obtain⟨g,off,Ak,Ck,A2,n2,C2,A3,n3,C3,rfl,hg0,hg,hki,hkc,hkm,hcell⟩:=yK h.pts hkl
 have EQ:yj ps (vS ps d) out (zK ps k) f c=out++ [⟨((zK ps k).dev:Nat),f,c⟩]:=by
  unfold yj;rw[hkind];rfl
 rw[EQ];rw[hkind]at hcell;have hkm2:Ck≤9223372036854775807:=hkm;generalize hps:(zK ps k).size=psz at *;generalize hpd:(zK ps k).dev=pdv at *;generalize hpf:(zK ps k).first=pfi at *;generalize hpc:(zK ps k).chunk=pch at *;generalize hpk:(zK ps k).kids=pk at *
 obtain⟨Kn,hKn⟩:∃Kn,Kn=pk.length:=⟨_,rfl⟩
 rw[←hKn]at hcell hkc hkl2;have HKn:Hid (Kn=pk.length):=hKn;clear hps hpd hpf hpc hpk hKn;have c0:=h.has.cell 0;have c1:=h.has.cell 1;have lc:=h.has.lt;simp only[jg,jd,jf]at c0 c1;have hooi:¬(256:Int)<(out.length:Int):=by omega
 have hkli:(k:Int)<(ps.length:Int):=by omega
 clear EQ hh hkind h;go_enter Tryz.func30,Tryz.ntmps30
 go_wp2_with (first
  |((go_at_call 61)
    refine hhas.mono ?_;rintro e w1 ⟨rfl,hb1⟩;have c0b:=za hb1 c0;have c1b:=za hb1 c1;have lcb:=Nat.lt_of_lt_of_le lc hb1.size;(have hcellb:=λj (hj:j<8)=>(hb1.cell (p:=⟨g,off+k*8+j,none⟩) hg).trans (hcell j hj)))
  |((refine zf 30 rfl ?_)
    (refine zb (some 30) _ rfl (by rfl) (qn _ _ rfl g off k ps.length C rfl rfl hkl w1) ?_))
  |((refine zf 31 rfl ?_)
    refine zb (some 31) _ rfl (by rfl) (qS _ rfl g (off+k*8) rfl w1 hcellb) ?_;have H1:=(hR.keep hb1).keep (zd w1 (.cells #[.int .i64 1,.int .i64 (psz:Nat),.slice Ak Kn Ck,.int .i64 (pdv:Nat),.int .i64 (pfi:Nat),.int .i64 (pch:Nat),.slice A2 n2 C2,.slice A3 n3 C3] 47));have P1:=ze.new w1 47 #[.int .i64 1,.int .i64 (psz:Nat),.slice Ak Kn Ck,.int .i64 (pdv:Nat),.int .i64 (pfi:Nat),.int .i64 (pch:Nat),.slice A2 n2 C2,.slice A3 n3 C3];(have B1:Below w.heap.size w (w1.alloc (.cells #[.int .i64 1,.int .i64 (psz:Nat),.slice Ak Kn Ck,.int .i64 (pdv:Nat),.int .i64 (pfi:Nat),.int .i64 (pch:Nat),.slice A2 n2 C2,.slice A3 n3 C3] 47)):=hb1.alloc hb1.size _)))
 have c1c:=za (zd w1 (.cells #[.int .i64 1,.int .i64 (psz:Nat),.slice Ak Kn Ck,.int .i64 (pdv:Nat),.int .i64 (pfi:Nat),.int .i64 (pch:Nat),.slice A2 n2 C2,.slice A3 n3 C3] 47)) c1b;have P1c:=P1.cell 3;have lW1:(w1.alloc (.cells #[.int .i64 1,.int .i64 (psz:Nat),.slice Ak Kn Ck,.int .i64 (pdv:Nat),.int .i64 (pfi:Nat),.int .i64 (pch:Nat),.slice A2 n2 C2,.slice A3 n3 C3] 47)).heap.size=w1.heap.size+1:=by simp
 have hne3:(Value.slice Av out.length Cv).ownBlock≠some w1.heap.size:=λe=>by have:=(qy (hR.keep hb1).row e).1;omega
 generalize (w1.alloc (.cells #[.int .i64 1,.int .i64 (psz:Nat),.slice Ak Kn Ck,.int .i64 (pdv:Nat),.int .i64 (pfi:Nat),.int .i64 (pch:Nat),.slice A2 n2 C2,.slice A3 n3 C3] 47))=W1 at *;refine vu (S:=λwz=>wz.cell? ⟨fb,1,none⟩=some (.slice Av out.length Cv)∧wz.cell? ⟨w1.heap.size,3,none⟩=some (.int .i64 (pdv:Nat))∧vM (λk=>k=fb∨(Value.slice Av out.length Cv).ownBlock=some k) W1 wz) 14 (by kernel_rfl) (⟨c1c,P1c,(vM.refl _ _).drew⟩) (λhHeld=>?_);refine vI 0 (some 48) (.pointer (some ⟨fb,0,none⟩)) hHeld ?_;simp only[Act.put,zk,zj,zl];refine vI 1 (some 49) (.pointer (some ⟨fb,0,none⟩)) hHeld ?_;simp only[Act.put,zk,zj,zl];refine vI 2 (some 50) (.pointer (some ⟨fb,0,none⟩)) hHeld ?_;simp only[Act.put,zk,zj,zl];refine vI 3 (some 51) (.pointer (some ⟨fb,1,none⟩)) hHeld ?_;simp only[Act.put,zk,zj,zl];refine vK 4 (some 52) (.slice Av out.length Cv) rfl rfl (λwz hz=>by obtain⟨z0,z1,z2⟩:=hz;unfold execOp;go_simp) hHeld ?_;simp only[Act.put,zk,zj,zl];refine vI 5 (some 53) (.pointer (some ⟨w1.heap.size,3,none⟩)) hHeld ?_;simp only[Act.put,zk,zj,zl];refine vK 6 (some 54) (.int .i64 (pdv:Nat)) rfl rfl (λwz hz=>by obtain⟨z0,z1,z2⟩:=hz;unfold execOp;go_simp) hHeld ?_;simp only[Act.put,zk,zj,zl];refine vI 7 (some 55) (.int .i64 f) hHeld ?_;simp only[Act.put,zk,zj,zl];refine vI 8 (some 56) (.int .i64 c) hHeld ?_;simp only[Act.put,zk,zj,zl];refine vK 9 (some 57) (.agg #[.int .i64 (pdv:Nat),.int .i64 f,.int .i64 c]) rfl rfl (λ_ _=>by kernel_rfl) hHeld ?_;simp only[Act.put,zk,zj,zl]
 have hS2:(W1.drew.alloc (.cells #[.int .i64 (pdv:Nat),.int .i64 f,.int .i64 c] 42)).cell? ⟨fb,1,none⟩=some (.slice Av out.length Cv)∧(W1.drew.alloc (.cells #[.int .i64 (pdv:Nat),.int .i64 f,.int .i64 c] 42)).cell? ⟨w1.heap.size,3,none⟩=some (.int .i64 (pdv:Nat))∧vM (λk=>k=fb∨(Value.slice Av out.length Cv).ownBlock=some k) W1 (W1.drew.alloc (.cells #[.int .i64 (pdv:Nat),.int .i64 f,.int .i64 c] 42)):=⟨za (zd W1.drew _) hHeld.1,za (zd W1.drew _) hHeld.2.1,hHeld.2.2.alloc _⟩
 refine jp 10 (some 58) (.slice (some ⟨W1.heap.size,0,none⟩) 1 1) (W1.drew.alloc (.cells #[.int .i64 (pdv:Nat),.int .i64 f,.int .i64 c] 42)) (by kernel_rfl) rfl rfl (by rfl) (by kernel_rfl) hS2 ?_;simp only[Act.put,zk,zj,zl];have row1:=((H1.keep (zu (Below.refl _ W1))).keep (zd W1.drew (.cells #[.int .i64 (pdv:Nat),.int .i64 f,.int .i64 c] 42))).row;obtain⟨A6,C6,w6,hr6,hrow6,hg6,hw6⟩:=jP zaU (ty:=40) (W1.drew.alloc (.cells #[.int .i64 (pdv:Nat),.int .i64 f,.int .i64 c] 42)) (fb+1) out.length _ _ row1 (by simp;omega) (by omega) [.int .i64 (pdv:Nat),.int .i64 f,.int .i64 c] rfl (by intro u hu;simp at hu;rcases hu with rfl|rfl|rfl<;>rfl) W1.heap.size (ze.new_at rfl);have hne:(Value.slice Av out.length Cv).ownBlock≠some fb:=λe=>by have:=(qy row1 e).2;omega
 have hne2:(Value.slice Av out.length Cv).ownBlock≠some w1.heap.size:=λe=>hne3 e
 have hF6:ze w6 fb 78 #[.slice (some ⟨g,off,none⟩) ps.length C,.slice Av out.length Cv]:=zQ ((zq H1.has).alloc _) hg6 hne;have hP6:ze w6 w1.heap.size 47 #[.int .i64 1,.int .i64 (psz:Nat),.slice Ak Kn Ck,.int .i64 (pdv:Nat),.int .i64 (pfi:Nat),.int .i64 (pch:Nat),.slice A2 n2 C2,.slice A3 n3 C3]:=zQ ((zq P1).alloc _) hg6 hne2;have hO6:vM (λk=>k=fb∨(Value.slice Av out.length Cv).ownBlock=some k) W1 w6:=hS2.2.2.trans ⟨hg6.os,hg6.tape,hg6.output,hg6.size,λk hk hn=>hg6.block k hk (λe=>hn (.inr e.symm))⟩;refine jp 11 (some 59) (.slice A6 (out.length+1) C6) w6 (by kernel_rfl) rfl rfl (by rfl) (jO _ _ rfl rfl rfl hr6) ⟨hF6.cell 1,hP6.cell 3,hO6⟩ ?_;simp only[Act.put,zk,zj,zl]
 have hS6:w6.cell? ⟨fb,1,none⟩=some (.slice Av out.length Cv)∧w6.cell? ⟨w1.heap.size,3,none⟩=some (.int .i64 (pdv:Nat))∧vM (λk=>k=fb∨(Value.slice Av out.length Cv).ownBlock=some k) W1 w6:=⟨hF6.cell 1,hP6.cell 3,hO6⟩
 refine jp 12 (some 60) (.pointer (some ⟨fb,0,none⟩)) w6 (by kernel_rfl) rfl rfl (by rfl) rfl hS6 ?_;simp only[Act.put,zk,zj,zl];refine jp 13 (some 61) (.pointer (some ⟨fb,1,none⟩)) w6 (by kernel_rfl) rfl rfl (by rfl) rfl hS6 ?_;simp only[Act.put,zk,zj,zl];have q6:=hF6.cell 1;have f6:=hF6.free 1;refine jA 14 none (w6.setCell ⟨fb,1,none⟩ (.slice A6 (out.length+1) C6)) (by kernel_rfl) rfl rfl (by rfl) (by unfold execOp;go_simp) (by kernel_rfl) ?_;simp only[Act.put]
 go_wp2
 go_end0
 have hfin:=H1.put (r:=⟨(pdv:Nat),f,c⟩) ho hF6 hrow6 hO6;refine⟨_,rfl,hfin,?_⟩
 have hb2:ye fb (.slice Av out.length Cv) W1 (.slice A6 (out.length+1) C6) (w6.setCell ⟨fb,1,none⟩ (.slice A6 (out.length+1) C6)):=⟨hO6.set (.inl (.inl rfl)) _,λj hj=>by
  rcases hw6 with e|e
  ·exact .inl (e ▸ hj)
  ·rw[e]at hj
   cases hj
   exact .inr (by simp)⟩
 exact(ye.of B1).trans hb2
end
end Go.Proofs.YtebcfkigbbolaaaGreatDoor
