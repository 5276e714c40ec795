import Derived.Test.YtebcfkigbbolaaaGreatDoorJoint01
import Derived.Test.YtebcfkigbbolaaaGreatDoorJoint10
import Derived.Test.YtebcfkigbbolaaaGreatDoorJoint14
import Derived.Test.YtebcfkigbbolaaaGreatDoorJoint05
import Derived.Test.YtebcfkigbbolaaaGreatDoorJoint06
import Derived.Test.YtebcfkigbbolaaaGreatDoorJoint00
import Derived.Test.YtebcfkigbbolaaaGreatDoorJoint13
import Derived.Test.YtebcfkigbbolaaaGreatDoorJoint09
import Derived.BigQuiet
import Derived.Deep.QuietTactic
namespace Go.Proofs.YtebcfkigbbolaaaGreatDoor
set_option linter.unusedVariables false
set_option maxRecDepth 100000
set_option maxHeartbeats 40000000
section
open Go.ChangeShapes Go.WideShapes Go.ChangeAt Go.RowKit Go.Shelf
def R3.cells(r:R3):Array Value:=#[.int .i64 r.d,.int .i64 r.f,.int .i64 r.c]
def Dt(w:World)(a:Option Addr)(n:Nat)(F:Nat→R3):Prop:=n=0∨∃b off,a=some ⟨b,off,none⟩∧b<w.heap.size ∧
 ∀i,i<n→w.cell? ⟨b,off+i*3,none⟩=some (.int .i64 (F i).d)∧w.cell? ⟨b,off+i*3+1,none⟩=some (.int .i64 (F i).f)∧w.cell? ⟨b,off+i*3+2,none⟩=some (.int .i64 (F i).c)
theorem Dt.below{w w':World}{a:Option Addr}{n B:Nat}{F:Nat→R3}(h:Dt w a n F)(hb:Below B w w')(hB:w.heap.size≤B):Dt w' a n F:=by
 rcases h with h|⟨b,off,rfl,hlt,hc⟩
 ·exact .inl h
 ·refine .inr ⟨b,off,rfl,by have:=hb.size;omega,λi hi=>?_⟩
  obtain⟨c0,c1,c2⟩:=hc i hi;have e:∀o,w'.cell? ⟨b,o,none⟩=w.cell? ⟨b,o,none⟩:=λo=>hb.cell (p:=⟨b,o,none⟩) (by show b<B;omega)
  exact⟨by rw[e];exact c0,by rw[e];exact c1,by rw[e];exact c2⟩
theorem Dt.to{w:World}{a:Option Addr}{n m:Nat}{F:Nat→R3}(h:Dt w a n F)(hm:m≤n):Dt w a m F:=by
 rcases h with h|⟨b,off,rfl,hlt,hc⟩
 ·exact .inl (by omega)
 ·exact .inr ⟨b,off,rfl,hlt,λi hi=>hc i (by omega)⟩
theorem Dt.at{w:World}{a:Option Addr}{n:Nat}{F:Nat→R3}(h:Dt w a n F)(i:Nat)(hi:i<n):∃b off,a=some ⟨b,off,none⟩∧b<w.heap.size ∧
 w.cell? ⟨b,off+i*3,none⟩=some (.int .i64 (F i).d)∧w.cell? ⟨b,off+i*3+1,none⟩=some (.int .i64 (F i).f)∧w.cell? ⟨b,off+i*3+2,none⟩=some (.int .i64 (F i).c):=by
 rcases h with h|⟨b,off,rfl,hlt,hc⟩
 ·omega
 ·exact⟨b,off,rfl,hlt,hc i hi⟩
theorem zaP(r q:R3)(bx:Nat)(W:World)(hx:ze W bx 42 q.cells):Calls Tryz.prog 33 #[r.v,.pointer (some ⟨bx,0,none⟩)] W λe W'=>e= .returned (.bool (Zf r q))∧Below W.heap.size W W':=by
 obtain⟨W0,hW0⟩:∃W0,W0=W.alloc (.cells #[.int .i64 r.d,.int .i64 r.f,.int .i64 r.c] 42):=⟨_,rfl⟩
 have hB0:Below W.heap.size W W0:=by rw[hW0];exact(Below.refl _ W).alloc (Nat.le_refl _) _
 obtain⟨c0,c1,c2⟩:=jQ hx;have hlt:=hx.lt;have hs:=FB r q W0;obtain⟨rd,rf,rc⟩:=r;obtain⟨qd,qf,qc⟩:=q;simp only at c0 c1 c2 hW0;simp only[R3.v]at hs ⊢;generalize Zf _ _=bo at hs ⊢;clear hx;go_enter Tryz.func33,Tryz.ntmps33
 go_wp2_with (first
  |((go_at_call 34)
    rw[←hW0];refine hs.mono ?_;(rintro e w1 ⟨rfl,hb1⟩)))
 go_ret
 exact⟨rfl,hB0.trans (hb1.mono hB0.size)⟩
def Hy(n:Nat)(p:Nat→Bool)(r:Int):Prop:=(r= -1∧∀i,i<n→p i=false)∨∃k:Nat,k<n∧r=k∧p k=true∧∀i,i<k→p i=false
theorem fW(g:Nat)(cb:Array Value)(a:Option Addr)(n cap:Nat)(F:Nat→R3)(p:Nat→Bool)(w:World)(eg:∀args w,(callFunc g args).run Tryz.prog w= .ok (.enter g args) w)(hn:n≤100000)(hl:Dt w a n F)
 (hf:∀(i:Nat) (W:World),i<n→Below w.heap.size w W→Calls Tryz.prog g (#[(F i).v]++cb) W λe W'=>e= .returned (.bool (p i))∧Below W.heap.size W W'):
 Calls Tryz.prog 32 #[.slice a n cap,.func (.func g) #[] cb] w λe w'=>∃r:Int,e= .returned (.int .i64 r)∧Hy n p r∧Below w.heap.size w w':=by
 have HF:Hid (∀(i:Nat) (W:World),i<n→Below w.heap.size w W→Calls Tryz.prog g (#[(F i).v]++cb) W λe W'=>e= .returned (.bool (p i))∧Below W.heap.size W W'):=hf;clear hf;go_enter Tryz.func32,Tryz.ntmps32
 go_wp2
 go_loopw [8] (λi wr=>∃k:Nat,k≤n∧i= .int .i64 k∧Hid (∀i,i<k→p i=false)∧Below w.heap.size w wr) (λi _=>n-(intOf i).toNat)
 case atStart=>exact⟨0,Nat.zero_le _,rfl,(λt ht=>absurd ht (Nat.not_lt_zero _):∀t,t<0→p t=false),Below.refl _ _⟩
 case round =>
  obtain⟨k,hk,rfl,HA,hb⟩:=hrel;by_cases hlt:k<n
  ·obtain⟨b,off,rfl,hbl,c0,c1,c2⟩:=(hl.below hb (Nat.le_refl _)).at k hlt
   have hc:=HF.out k _ hlt hb;simp only[R3.v]at hc;cases hp:p k<;>rw[hp]at hc
   ·have HP:Hid (p k=false):=hp
    clear hp hl;generalize F k=r at *;obtain⟨rd,rf,rc⟩:=r;simp only at c0 c1 c2 hc
    go_wp2_with (go_at_fn g;refine hc.mono ?_;rintro e w' ⟨rfl,hb2⟩)
    go_roundw
    case rel=>exact⟨k+1,hlt,by go_num,(λt ht=>by
     by_cases e:t<k
     ·exact HA.out t e
     ·obtain rfl:t=k:=by omega
      exact HP.out:∀t,t<k+1→p t=false),hb.trans (hb2.mono hb.size)⟩
    case measure=>simp[intOf];omega
   ·have HP:Hid (p k=true):=hp
    clear hp hl;generalize F k=r at *;obtain⟨rd,rf,rc⟩:=r;simp only at c0 c1 c2 hc
    go_wp2_with (go_at_fn g;refine hc.mono ?_;rintro e w' ⟨rfl,hb2⟩)
    go_ret
    exact⟨k,rfl,.inr ⟨k,hlt,rfl,HP.out,HA.out⟩,hb.trans (hb2.mono hb.size)⟩
  ·obtain rfl:k=n:=by omega
   clear hl
   go_wp2
   go_ret
   exact⟨-1,rfl,.inl ⟨rfl,HA.out⟩,hb⟩
def Ov(n:Nat)(S:Nat→Nat→Bool)(i j:Int):Prop:=(i= -1∧j= -1∧∀b,b<n→∀a,a<b→S a b=false) ∨
 ∃a b:Nat,i=a∧j=b∧a<b∧b<n∧S a b=true∧(∀b',b'<b→∀a',a'<b'→S a' b'=false)∧(∀a',a'<a→S a' b=false)
theorem Ov.eq{n:Nat}{S T:Nat→Nat→Bool}{i j p q:Int}(h:Ov n S i j)(k:Ov n T p q)(hST:∀b,b<n→∀a,a<b→S a b=T a b):i=p∧j=q:=by
 rcases h with⟨rfl,rfl,h⟩|⟨a,b,rfl,rfl,hab,hbn,hs,hl,hm⟩
 ·rcases k with⟨rfl,rfl,k⟩|⟨c,d,rfl,rfl,hcd,hdn,ht,kl,km⟩
  ·exact⟨rfl,rfl⟩
  ·have:=h d hdn c hcd
   rw[hST d hdn c hcd,ht]at this;cases this
 ·rcases k with⟨rfl,rfl,k⟩|⟨c,d,rfl,rfl,hcd,hdn,ht,kl,km⟩
  ·have:=k b hbn a hab
   rw[←hST b hbn a hab,hs]at this;cases this
  ·have hbd:b=d:=by
    rcases Nat.lt_trichotomy b d with e|e|e
    ·have:=kl b e a hab;rw[←hST b hbn a hab,hs]at this;cases this
    ·exact e
    ·have:=hl d e c hcd;rw[hST d hdn c hcd,ht]at this;cases this
   subst hbd
   have hac:a=c:=by
    rcases Nat.lt_trichotomy a c with e|e|e
    ·have:=km a e;rw[←hST b hbn a hab,hs]at this;cases this
    ·exact e
    ·have:=hm c e;rw[hST b hbn c hcd,ht]at this;cases this
   subst hac;exact⟨rfl,rfl⟩
def SS(F:Nat→R3)(a b:Nat):Bool:=Zf (F a) (F b)
theorem GL(a:Option Addr)(n cap:Nat)(F:Nat→R3)(w:World)(hn:n≤100000)(hcap:n≤cap)(hcm:cap≤9223372036854775807)(hl:Dt w a n F):
 Calls Tryz.prog 17 #[.slice a n cap] w λe w'=>∃i j:Int,e= .returned (.tuple #[.int .i64 i,.int .i64 j])∧Ov n (SS F) i j∧Below w.heap.size w w':=by
 go_enter Tryz.func17,Tryz.ntmps17
 go_wp2
 go_loopw [9] (λi wr=>∃k:Nat,k≤n∧i= .int .i64 k∧Hid (∀b,b<k→∀a,a<b→SS F a b=false)∧Below w.heap.size w wr) (λi _=>n-(intOf i).toNat)
 case atStart=>exact⟨0,Nat.zero_le _,rfl,(λt ht=>absurd ht (Nat.not_lt_zero _):∀t,t<0→∀a,a<t→SS F a t=false),Below.refl _ _⟩
 case round =>
  rename_i wr
  obtain⟨k,hk,rfl,HA,hb⟩:=hrel;by_cases hlt:k<n
  ·have hlr:=hl.below hb (Nat.le_refl _)
   obtain⟨b,off,rfl,hbl,c0,c1,c2⟩:=hlr.at k hlt
   obtain⟨W0,hW0⟩:∃W0,W0=wr.alloc (.cells #[.int .i64 (F k).d,.int .i64 (F k).f,.int .i64 (F k).c] 42):=⟨_,rfl⟩
   have hB0:Below wr.heap.size wr W0:=by rw[hW0];exact(Below.refl _ wr).alloc (Nat.le_refl _) _
   have hx0:ze W0 wr.heap.size 42 (F k).cells:=by rw[hW0];exact ze.new _ _ _
   have hI:=fW 33 #[.pointer (some ⟨wr.heap.size,0,none⟩)] (some ⟨b,off,none⟩) k cap F (λi=>SS F i k) W0 (enters_of Tryz.func33 (by kernel_rfl) rfl) (by omega) ((hlr.below hB0 (Nat.le_refl _)).to (by omega))
    (λi W hi hbW=>zaP (F i) (F k) wr.heap.size W (hx0.below hbW hx0.lt))
   have HI:Hid (Calls Tryz.prog 32 #[.slice (some ⟨b,off,none⟩) k cap,.func (.func 33) #[] #[.pointer (some ⟨wr.heap.size,0,none⟩)]] W0 λe w'=>∃r:Int,e= .returned (.int .i64 r)∧Hy k (λi=>SS F i k) r∧Below W0.heap.size W0 w'):=hI;clear hI;generalize hFk:F k=q at c0 c1 c2 hW0;obtain⟨qd,qf,qc⟩:=q;simp only at c0 c1 c2 hW0;clear hFk hlr hl
   go_wp2_with (first
    |((go_at_call 32)
      rw[←hW0];refine HI.out.mono ?_;(rintro e w1 ⟨r,rfl,hF,hb1⟩)))
   ·rename_i hr
    go_ret2
    have hB1:Below w.heap.size w w1:=hb.trans ((hB0.trans (hb1.mono hB0.size)).mono hb.size);rcases hF with⟨rfl,hall⟩|⟨m,hm,rfl,hpm,hall⟩
    ·omega
    ·exact⟨m,k,rfl,.inr ⟨m,k,rfl,rfl,hm,hlt,hpm,HA.out,hall⟩,hB1⟩
   ·rename_i hr
    go_roundw
    case rel =>
     have hB1:Below w.heap.size w w1:=hb.trans ((hB0.trans (hb1.mono hB0.size)).mono hb.size);refine⟨k+1,hlt,by go_num,?_,hB1⟩;rcases hF with⟨rfl,hall⟩|⟨m,hm,rfl,hpm,hall⟩
     ·exact(λt ht=>by
       by_cases e:t<k
       ·exact HA.out t e
       ·obtain rfl:t=k:=by omega
        exact hall:∀t,t<k+1→∀a,a<t→SS F a t=false)
     ·exfalso;omega
    case measure=>simp[intOf];omega
  ·obtain rfl:k=n:=by omega
   clear hl
   go_wp2
   go_ret2
   exact⟨-1,-1,rfl,.inl ⟨rfl,rfl,HA.out⟩,hb⟩
end
section
open Go.ChangeShapes Go.WideShapes Go.ChangeAt Go.RowKit Go.MapKept
variable {E:Nat→Prop}
def rgF(l:List R3)(k:Nat):R3:=l.getD k ⟨0,0,0⟩
theorem dp(l:List R3):∀(k:Nat) (hk:k<l.length),(fp l)[k*3]?=some (.int .i64 l[k].d)∧(fp l)[k*3+1]?=some (.int .i64 l[k].f)∧(fp l)[k*3+2]?=some (.int .i64 l[k].c):=by
 induction l with
 |nil=>intro k hk;cases hk
 |cons r l ih =>
  intro k hk;cases k with
  |zero=>exact⟨rfl,rfl,rfl⟩
  |succ k =>
   have:=ih k (by simpa using hk);have e:fp (r::l)= [.int .i64 r.d,.int .i64 r.f,.int .i64 r.c]++fp l:=rfl;rw[e];refine⟨?_,?_,?_⟩
   ·rw[List.getElem?_append_right (by simp;omega),show(k+1)*3- [Value.int .i64 r.d,.int .i64 r.f,.int .i64 r.c].length=k*3 by simp;omega];exact this.1
   ·rw[List.getElem?_append_right (by simp;omega),show(k+1)*3+1- [Value.int .i64 r.d,.int .i64 r.f,.int .i64 r.c].length=k*3+1 by simp;omega];exact this.2.1
   ·rw[List.getElem?_append_right (by simp;omega),show(k+1)*3+2- [Value.int .i64 r.d,.int .i64 r.f,.int .i64 r.c].length=k*3+2 by simp;omega];exact this.2.2
theorem DR.rng{w:World}{base:Nat}{v:Value}{l:List R3}(h:DR w base v l):∃A C,v= .slice A l.length C∧l.length≤C∧C≤maxLen∧Dt w A l.length (rgF l):=by
 by_cases h0:0<l.length
 ·obtain⟨g,C,e,h1,h2,h3,_,h4⟩:=Qo h h0
  refine⟨_,C,e,h1,h2,.inr ⟨g,0,rfl,h3,λi hi=>?_⟩⟩;have:=dp l i hi;have eF:rgF l i=l[i]:=by unfold rgF;rw[List.getD_eq_getElem?_getD,List.getElem?_eq_getElem hi];rfl
  rw[eF,Nat.zero_add,h4 _ (by omega),h4 _ (by omega),h4 _ (by omega)];exact this
 ·have e0:l.length=0:=by omega
  rcases h.2 with⟨e,_⟩|⟨b,cap,cur,e,_,_,h1,h2,_⟩
  ·exact⟨none,0,by rw[e,e0],by omega,by unfold maxLen;omega,.inl e0⟩
  ·exact⟨_,cap,e,h1,h2,.inl e0⟩
theorem fP{l:List R3}{i j:Int}(h:Ov l.length (SS (rgF l)) i j):decide (i<0)= !QD l:=by
 rcases h with⟨rfl,_,h⟩|⟨a,b,rfl,_,hab,hbn,hs,_⟩
 ·have :QD l=false:=by
   unfold QD;rw[List.any_eq_false];intro b hb;rw[Bool.not_eq_true,List.any_eq_false];intro a ha;rw[Bool.not_eq_true];exact h b (List.mem_range.1 hb) a (List.mem_range.1 ha)
  rw[this];rfl
 ·have :QD l=true:=by
   unfold QD;exact List.any_eq_true.2 ⟨b,List.mem_range.2 hbn,List.any_eq_true.2 ⟨a,List.mem_range.2 hab,hs⟩⟩
  rw[this,decide_eq_false (by omega)];rfl
theorem zM.pts{w:World}{cb:Nat}{V:CV}{c:Ck}(h:zM E w cb V c)(hn:0<c.parts.length):∃g off C,V.vp= .slice (some ⟨g,off,none⟩) c.parts.length C∧c.parts.length≤C∧C≤maxLen∧g<w.heap.size∧Du w g off c.parts∧yP w w.heap.size (some ⟨g,off,none⟩) c.parts:=by
 obtain⟨us,e1,hp,hin⟩:=h.prts;obtain⟨g,C,e,h1,h2,h3,_,h4⟩:=Qo hp hn;refine⟨g,0,C,e,h1,h2,h3,λk hk=>?_,λi hi=>⟨g,0,us[i]'(by omega),rfl,h3,h3,λj hj=>?_,(hin i hi (by omega)).keep (Nat.le_refl _) (λk hk _=>⟨rfl,hk⟩)⟩⟩
 ·rw[show 0+k*8+1=k*8+1 by omega,h4 (k*8+1) (by omega),JH _ us e1 k hk 1 (by decide),Fu _ hk]
  rfl
 ·rw[Nat.zero_add,h4 _ (by omega),JH _ us e1 i hi j hj]
theorem yP.up{w w':World}{A:Option Addr}{ps:List Pt}(h:yP w w.heap.size A ps)(hb:Below w.heap.size w w'):yP w' w'.heap.size A ps:=λi hi=>by
 obtain⟨g,off,u,e,a1,a2,a3,a4⟩:=(h.keep hb) i hi;exact⟨g,off,u,e,Nat.lt_of_lt_of_le a1 hb.size,a2,a3,a4.keep (Nat.le_refl _) (λk hk hP=>⟨rfl,Nat.lt_of_lt_of_le hP hb.size⟩)⟩
theorem YH{o:Oper}{a:Act}(x:Operand)(ho:o.op= .load 32 x)(g:Nat)(hx:a.eval x= .pointer (some ⟨g,0,none⟩)){x0 x1 x2 x3 x4 x5 x6 x7:Value}(w:World){t:Nat}(h:ze w g t #[x0,x1,x2,x3,x4,x5,x6,x7]):(execOp a.eval o).run Tryz.prog w= .ok (.value (.agg #[x0,x1,x2,x3,x4])) w:=by
 have q0:=h.cell 0;have q1:=h.cell 1;have q2:=h.cell 2;have q3:=h.cell 3;have q4:=h.cell 4;simp only[jg,jd,jf]at q0 q1 q2 q3 q4;unfold execOp;simp only[ho,hx];go_simp
end
section
open Go.ChangeShapes Go.WideShapes Go.ChangeAt Go.RowKit Go.MapKept
variable {E:Nat→Prop}
def za3(w:World)(R:Except Er VK)(e:Ending)(w':World):Prop:=Below w.heap.size w w'∧match R with
 | .error (ec,ek)=>e= .panicked (YE ec ek)
 | .ok _=>e= .returned (.tuple #[])
theorem J1{w:World}{cb:Nat}{V:CV}{c:Ck}(h:zM E w cb V c)(hwf:XE c.parts)(hno:c.jour=none∨c.expo=none):Calls Tryz.prog 53 #[.pointer (some ⟨cb,0,none⟩)] w (za3 w (vw c)):=by
 have HR:=zz (show vw c= .error (138,0) by
  unfold vw;rcases hno with e|e
  ·rw[e]
  ·rw[e];cases c.jour<;>rfl)
 have c1:=h.has.cell 1;have c3:=h.has.cell 3;have lcb:=h.has.lt;simp only[jg,jd,jf]at c1 c3;have hno':=qO 138 0 w;cases hj:c.jour with
 |none =>
  rw[hj]at c1;change w.cell? ⟨cb,1,none⟩=some (.int .i64 (-1))at c1;clear hno hj;go_enter Tryz.func53,Tryz.ntmps53
  go_wp2_with (first
   |((go_at_call 86)
     refine hno'.mono ?_;rintro e w3 ⟨rfl,hw3⟩;(obtain rfl:w=w3:=hw3.symm)))
  exact⟨rfl,Below.refl _ _,by rw[HR.out];rfl⟩
 |some j =>
  have hx:c.expo=none:=by
   rcases hno with e|e
   ·rw[hj]at e;cases e
   ·exact e
  rw[hj]at c1;rw[hx]at c3;change w.cell? ⟨cb,1,none⟩=some (.int .i64 (j:Nat))at c1;change w.cell? ⟨cb,3,none⟩=some (.int .i64 (-1))at c3;have hj1:¬((j:Nat):Int)= -1:=by omega
  clear hno hj hx;go_enter Tryz.func53,Tryz.ntmps53
  go_wp2_with (first
   |((go_at_call 86)
     refine hno'.mono ?_;rintro e w3 ⟨rfl,hw3⟩;(obtain rfl:w=w3:=hw3.symm)))
  exact⟨rfl,Below.refl _ _,by rw[HR.out];rfl⟩
theorem kI{w:World}{cb:Nat}{V:CV}{c:Ck}(h:zM E w cb V c)(hwf:XE c.parts)(j x:Nat)(hj:c.jour=some j)(hx:c.expo=some x)(hxn0:yW c.parts x):Calls Tryz.prog 53 #[.pointer (some ⟨cb,0,none⟩)] w (za3 w (vw c)):=by
 have hR:vw c=if 256<(ZA c.parts x 0 (sz c.parts x)).length then .error (137,c.eat)else if QD (ZA c.parts x 0 (sz c.parts x))then .error (136,c.eat)else .ok ⟨c.devs,j,c.parts,x,c.ro⟩:=by
  unfold vw;rw[hj,hx]
 obtain⟨g,op,Cp,evp,hCp1,hCp2,hg,hSz,hPt⟩:=h.pts (by have:=hxn0.1;omega);have c1:=h.has.cell 1;have c2:=h.has.cell 2;have c3:=h.has.cell 3;have c7:=h.has.cell 7;have lcb:=h.has.lt;have hH0:=h.has;have s0:=hSz x hxn0.1;rw[hj]at c1;rw[hx]at c3;rw[hj,hx,evp]at hH0;simp only[List.getElem?_toArray,List.getElem?_cons_zero,List.getElem?_cons_succ,evp]at c1 c2 c3 c7;change w.cell? ⟨cb,1,none⟩=some (.int .i64 (j:Nat))at c1;change w.cell? ⟨cb,3,none⟩=some (.int .i64 (x:Nat))at c3;have hreg:=λW (hb:Below w.heap.size w W)=>GF (hPt.up hb) ⟨hCp1,hCp2⟩ hwf V.vd (.int .i64 (j:Nat)) (.int .i64 (x:Nat)) (.bool c.ro) (x:Nat) 0 (sz c.parts x:Nat) (by have:=hxn0.1;have:=h.few.1;unfold qe;omega) (by unfold qe;omega) (by have:=hxn0.2.2;unfold qe;omega)
 obtain⟨NP,hNP⟩:∃NP,NP=c.parts.length:=⟨_,rfl⟩
 have hxn:x<NP:=by rw[hNP];exact hxn0.1
 have hH:ze w cb 68 #[V.vd,.int .i64 (j:Nat),.slice (some ⟨g,op,none⟩) NP Cp,.int .i64 (x:Nat),.bool c.ro,.map (some V.mb),V.vb,.int .i64 c.eat]:=by rw[hNP];exact hH0
 rw[←hNP]at c2 hCp1 hreg
 obtain⟨S,hS⟩:∃S,S=sz c.parts x:=⟨_,rfl⟩
 rw[←hS]at s0 hR hreg;generalize ZA c.parts (x:Nat) 0 (S:Nat)=rg at *;have HR:=zz hR;have hj1:¬((j:Nat):Int)= -1:=by omega
 have hx1:¬((x:Nat):Int)= -1:=by omega
 have hny:=qa 138 0 w;clear hNP hS hR hH0 hSz hPt evp;go_enter Tryz.func53,Tryz.ntmps53
 go_wp2_with (first
  |((go_at_call 86)
    refine hny.mono ?_;rintro e w3 ⟨rfl,hw3⟩;(obtain rfl:w=w3:=hw3.symm)))
 refine wp_region_held_drew (S:=λwz=>Below w.heap.size w wz) (by kernel_rfl) ((Below.refl _ w).drew) (λhHeld=>?_);refine zS 0 (some 20) (.pointer (some ⟨cb,0,none⟩)) hHeld ?_;simp only[Act.put,zk,zj,zl];refine zS 1 (some 21) (.pointer (some ⟨cb,0,none⟩)) hHeld ?_;simp only[Act.put,zk,zj,zl];refine zS 2 (some 22) (.pointer (some ⟨cb,0,none⟩)) hHeld ?_;simp only[Act.put,zk,zj,zl];refine qq 3 (some 23) (.agg #[V.vd,.int .i64 (j:Nat),.slice (some ⟨g,op,none⟩) NP Cp,.int .i64 (x:Nat),.bool c.ro]) rfl rfl (λwz hz=>YH _ rfl cb rfl wz (hH.below hz hH.lt)) hHeld ?_;simp only[Act.put,zk,zj,zl];refine zS 4 (some 24) (.pointer (some ⟨cb,0,none⟩)) hHeld ?_;simp only[Act.put,zk,zj,zl];refine zS 5 (some 25) (.pointer (some ⟨cb,0,none⟩)) hHeld ?_;simp only[Act.put,zk,zj,zl];refine zS 6 (some 26) (.pointer (some ⟨cb,0,none⟩)) hHeld ?_;simp only[Act.put,zk,zj,zl];refine zS 7 (some 27) (.pointer (some ⟨cb,3,none⟩)) hHeld ?_;simp only[Act.put,zk,zj,zl];refine qq 8 (some 28) (.int .i64 (x:Nat)) rfl rfl (λwz hz=>by have z0:=za hz c3;unfold execOp;go_simp) hHeld ?_;simp only[Act.put,zk,zj,zl];refine zS 9 (some 29) (.pointer (some ⟨cb,0,none⟩)) hHeld ?_;simp only[Act.put,zk,zj,zl];refine zS 10 (some 30) (.pointer (some ⟨cb,0,none⟩)) hHeld ?_;simp only[Act.put,zk,zj,zl];refine zS 11 (some 31) (.pointer (some ⟨cb,0,none⟩)) hHeld ?_;simp only[Act.put,zk,zj,zl];refine zS 12 (some 32) (.pointer (some ⟨cb,2,none⟩)) hHeld ?_;simp only[Act.put,zk,zj,zl];refine qq 13 (some 33) (.slice (some ⟨g,op,none⟩) NP Cp) rfl rfl (λwz hz=>by have z0:=za hz c2;unfold execOp;go_simp) hHeld ?_;simp only[Act.put,zk,zj,zl];refine zS 14 (some 34) (.pointer (some ⟨cb,0,none⟩)) hHeld ?_;simp only[Act.put,zk,zj,zl];refine zS 15 (some 35) (.pointer (some ⟨cb,0,none⟩)) hHeld ?_;simp only[Act.put,zk,zj,zl];refine zS 16 (some 36) (.pointer (some ⟨cb,0,none⟩)) hHeld ?_;simp only[Act.put,zk,zj,zl];refine zS 17 (some 37) (.pointer (some ⟨cb,3,none⟩)) hHeld ?_;simp only[Act.put,zk,zj,zl];refine qq 18 (some 38) (.int .i64 (x:Nat)) rfl rfl (λwz hz=>by have z0:=za hz c3;unfold execOp;go_simp) hHeld ?_;simp only[Act.put,zk,zj,zl];refine qq 19 (some 39) (.pointer (some ⟨g,op+x*8,none⟩)) rfl rfl (λwz _=>qn _ _ rfl g op x NP Cp rfl rfl hxn wz) hHeld ?_;simp only[Act.put,zk,zj,zl];refine zS 20 (some 40) (.pointer (some ⟨g,op+x*8+1,none⟩)) hHeld ?_;simp only[Act.put,zk,zj,zl];refine qq 21 (some 41) (.int .i64 (S:Nat)) rfl rfl (λwz hz=>by have z0:=za hz s0;unfold execOp;go_simp) hHeld ?_;simp only[Act.put,zk,zj,zl];refine qG 22 (some 42) 15 #[.agg #[V.vd,.int .i64 (j:Nat),.slice (some ⟨g,op,none⟩) NP Cp,.int .i64 (x:Nat),.bool c.ro],.int .i64 (x:Nat),.int .i64 0,.int .i64 (S:Nat)] (by kernel_rfl) rfl rfl (by rfl) (by kernel_rfl) (hreg _ (zu (Below.refl _ w))) ?_;rintro e w4 ⟨v,rfl,hrg,hb4',hl257⟩;have hb4:Below w.heap.size w w4:=(zu (Below.refl _ w)).trans hb4';obtain⟨Ar,Cr,rfl,hr1,hr2,hrn⟩:=hrg.rng;refine .inl ⟨_,rfl,hb4,?_⟩;simp only[Act.put,zk,zj,zl];refine qq 23 (some 2) (.slice Ar rg.length Cr) rfl rfl (λ_ _=>rfl) hb4 ?_;simp only[Act.put,zk,zj,zl];refine wpAnyH_done (by kernel_rfl) ?_ _;have d7:=za hb4 c7;have ld:cb<w4.heap.size:=Nat.lt_of_lt_of_le lcb hb4.size;have hov:=GL Ar rg.length Cr (rgF rg) w4 (by omega) hr1 hr2 hrn;have hOV:=zz (λi j h=>fP (l:=rg) (i:=i) (j:=j) h)
 obtain⟨RL,hRL⟩:∃RL,RL=rg.length:=⟨_,rfl⟩
 rw[←hRL]at HR hr1 hl257 hov hOV ⊢;clear hrg hb4' hHeld hrn c1 c2 c3 c7 s0 hreg hRL hny hH;by_cases h256:256<RL
 ·have HR:=zz (HR.out.trans (if_pos h256))
  have hle:¬((RL:Nat):Int)≤256:=by omega
  have hno:=qO 137 c.eat w4
  go_wp2_with (first
   |((go_at_call 86)
     refine hno.mono ?_;rintro e w3 ⟨rfl,hw3⟩;(obtain rfl:w4=w3:=hw3.symm)))
  exact⟨rfl,hb4,by rw[HR.out];rfl⟩
 ·have HR:=zz (HR.out.trans (if_neg h256))
  have hle:((RL:Nat):Int)≤256:=by omega
  cases hO:QD rg with
  |true =>
   rw[hO]at HR hOV;have HR:=zz (HR.out.trans (if_pos rfl));clear hO
   go_wp2_with (first
    |((go_at_call 86)
      refine qk w4 ?_;refine(qa 137 c.eat w4).mono ?_;rintro e w3 ⟨rfl,hw3⟩;(obtain rfl:w4=w3:=hw3.symm))
    |((go_at_call 17)
      refine hov.mono ?_;rintro e w5 ⟨i,j',rfl,hi,hb5⟩;have hneg:decide (i<0)=false:=hOV.out i j' hi;have d75:=za hb5 d7;(have ld5:cb<w5.heap.size:=Nat.lt_of_lt_of_le ld hb5.size))
    |((go_at_call 86)
      refine(qO 136 c.eat w5).mono ?_;rintro e w3 ⟨rfl,hw3⟩;(obtain rfl:w5=w3:=hw3.symm)))
   exact⟨rfl,hb4.trans (hb5.mono hb4.size),by rw[HR.out];rfl⟩
  |false =>
   rw[hO]at HR hOV;have HR:=zz (HR.out.trans (if_neg (by decide)));clear hO
   go_wp2_with (first
    |((go_at_call 86)
      refine qk w4 ?_;refine(qa 137 c.eat w4).mono ?_;rintro e w3 ⟨rfl,hw3⟩;(obtain rfl:w4=w3:=hw3.symm))
    |((go_at_call 17)
      refine hov.mono ?_;rintro e w5 ⟨i,j',rfl,hi,hb5⟩;have hneg:decide (i<0)=true:=hOV.out i j' hi;have d75:=za hb5 d7;(have ld5:cb<w5.heap.size:=Nat.lt_of_lt_of_le ld hb5.size))
    |((go_at_call 86)
      refine(qa 136 c.eat w5).mono ?_;rintro e w3 ⟨rfl,hw3⟩;(obtain rfl:w5=w3:=hw3.symm)))
   go_end0
   exact⟨hb4.trans (hb5.mono hb4.size),by rw[HR.out]⟩
theorem dR{w:World}{cb:Nat}{V:CV}{c:Ck}(h:zM E w cb V c)(hwf:XE c.parts)(hx:∀x,c.expo=some x→yW c.parts x):Calls Tryz.prog 53 #[.pointer (some ⟨cb,0,none⟩)] w (za3 w (vw c)):=by
 cases hj:c.jour with
 |none=>exact J1 h hwf (.inl hj)
 |some j =>
  cases he:c.expo with
  |none=>exact J1 h hwf (.inr he)
  |some x=>exact kI h hwf j x hj he (hx x he)
end
section
open Go.ChangeShapes Go.WideShapes Go.ChangeAt Go.RowKit Go.MapKept
variable {E:Nat→Prop}
theorem Kt(l:List Nd)(x:Nd):∀c,jR c (l++ [x])=match jR c l with
 | .error e=> .error e
 | .ok c1=>jH c1 x:=by
 induction l with
 |nil =>
  intro c;simp only[List.nil_append,jR];cases jH c x<;>rfl
 |cons y l ih =>
  intro c;simp only[List.cons_append,jR];cases jH c y with
  |error e=>rfl
  |ok c1=>exact ih c1
theorem Un(l r:List Nd)(e:Er):∀c,jR c l= .error e→jR c (l++r)= .error e:=by
 induction l with
 |nil=>intro c h;cases h
 |cons y l ih =>
  intro c h;simp only[List.cons_append,jR]at h ⊢;cases hy:jH c y with
  |error e'=>rw[hy]at h;exact h
  |ok c1=>rw[hy]at h;exact ih c1 h
structure xm (w:World) (B:Nat) (s:VK) (vd vp:Value):Prop where
 devs:w.ownsRow B 3 1 vd s.devs.length (s.devs.map λd=> .int .i64 (d:Nat))
 prts:∃us,us.length=s.parts.length∧w.ownsRow B 47 8 vp s.parts.length (F7 s.parts us)∧∀i (h:i<s.parts.length) (h':i<us.length),Qk w (λg=>B≤g) s.parts[i] us[i]
theorem QB{w:World}{b b' e size n:Nat}{v:Value}{xs:List Value}(h:w.ownsRow b e size v n xs)(hb:b'≤b):w.ownsRow b' e size v n xs:=by
 refine⟨h.1,?_⟩;rcases h.2 with h|⟨g,cap,cur,e,h1,h2⟩
 ·exact .inl h
 ·exact .inr ⟨g,cap,cur,e,Nat.le_trans hb h1,h2⟩
theorem zM.stk{w:World}{cb B:Nat}{V:CV}{c:Ck}(h:zM (λg=>B≤g) w cb V c)(hB:B≤cb)(s:VK)(e1:s.devs=c.devs)(e2:s.parts=c.parts):xm w B s V.vd V.vp:=by
 obtain⟨us,e,hr,hi⟩:=h.prts;refine⟨by rw[e1];exact QB h.devs hB,us,by rw[e2];exact e,by rw[e2];exact QB hr hB,?_⟩;rw[e2];exact λi a b=>(hi i a b).keep (Nat.le_refl _) (λk hk hP=>⟨rfl,hP.2⟩)
theorem xm.keep{w w':World}{B:Nat}{s:VK}{vd vp:Value}(h:xm w B s vd vp)(hs:w.heap.size≤w'.heap.size)(hk:∀k,k<w.heap.size→B≤k→w'.heap[k]?=w.heap[k]?):xm w' B s vd vp:=by
 obtain⟨us,e,hr,hi⟩:=h.prts;refine⟨zI h.devs (λg o e ho=>(hk g (Array.getElem?_eq_some_iff.1 ho).1 (qy h.devs e).2).trans ho),us,e,zI hr (λg o e ho=>(hk g (Array.getElem?_eq_some_iff.1 ho).1 (qy hr e).2).trans ho),λi a b=>(hi i a b).keep hs (λk h1 h2=>⟨hk k h1 h2,h2⟩)⟩
theorem fh(p q r:Addr)(w:World):
 CallsD Tryz.prog 50 #[.pointer (some p),.pointer (some q),.pointer (some r)] .returning w λe u' w'=>e= .returned (.tuple #[])∧u'= .returning∧w'=w:=by
 refine callsD_of_wpS Tryz.func50 rfl λc₀ cs hu=>?_
 apply wpS_seq;apply wpS_region;simp[wpOpsS,go_sem,recoverD,hu,Tryz.ntmps50,Exit.thenS];apply wpS_seq;apply wpS_seq;apply wpS_region;simp[wpOpsS,go_sem,Exit.thenS];refine wpS_cond (t:=true) (by simp[Act.eval,Array.replicate]) ?_;simp only[if_true];refine wpS_of_wp (wp_ret ?_);cases c₀
 simp_all [bodyPostS,results,Tryz.results50,Exit.thenS]
theorem Kw(c k:Int)(w:World):(Instr.typeAssert (.iface 111 (.agg #[.int .i64 c,.int .i64 k])) 20 111 true).run Tryz.prog w= .ok (.tuple #[.agg #[.int .i64 c,.int .i64 k],.bool true]) w:=by kernel_rfl
theorem Qc(c k:Int)(p:Nat)(x0 x1 x2 x3 x4 y z:Value)(w:World)(hp:ze w p 32 #[x0,x1,x2,x3,x4])(hq:ze w (p+1) 25 #[y])(hr:ze w (p+2) 3 #[z]):
 CallsD Tryz.prog 50 #[.pointer (some ⟨p,0,none⟩),.pointer (some ⟨p+1,0,none⟩),.pointer (some ⟨p+2,0,none⟩)] (.panicking (YE c k)) w λe u' w' =>
  e= .returned (.tuple #[])∧u'= .panicking [{ v:= .iface 111 (.agg #[.int .i64 c,.int .i64 k]),recovered:=true }] ∧
  ze w' p 32 #[.slice none 0 0,.int .i64 0,.slice none 0 0,.int .i64 0,.bool false]∧ze w' (p+1) 25 #[.int .i64 c]∧ze w' (p+2) 3 #[.int .i64 k]∧Below p w w':=by
 have hl:=hr.lt;refine callsD_of_wpS Tryz.func50 rfl λc₀ cs hu=>?_
 have hu':c₀.mode= .panicking [{ v:= .iface 111 (.agg #[.int .i64 c,.int .i64 k]),recovered:=false }]:=hu;apply wpS_seq;apply wpS_region;simp[wpOpsS,go_sem,recoverD,hu',Tryz.ntmps50,Exit.thenS];apply wpS_seq;apply wpS_seq;apply wpS_region;simp[wpOpsS,go_sem,Exit.thenS];refine wpS_cond (t:=false) (by simp[Act.eval,Array.replicate]) ?_;simp only[Bool.false_eq_true,if_false];refine wpS_of_wp (wp_skip ?_);simp only[Exit.thenS];apply wpS_seq;apply wpS_region;simp[wpOpsS,go_sem,Exit.thenS,Kw];apply wpS_seq;apply wpS_seq;apply wpS_region;simp[wpOpsS,go_sem,Exit.thenS];refine wpS_cond (t:=false) (by simp[Act.eval,Array.replicate]) ?_;simp only[Bool.false_eq_true,if_false];refine wpS_of_wp (wp_skip ?_);simp only[Exit.thenS];have a0:=hp.cell 0;have a1:=hp.cell 1;have a2:=hp.cell 2;have a3:=hp.cell 3;have a4:=hp.cell 4;have b0:=hp.free 0;have b1:=hp.free 1;have b2:=hp.free 2;have b3:=hp.free 3;have b4:=hp.free 4;have c0:=hq.cell 0;have c1:=hq.free 0;have d0:=hr.cell 0;have d1:=hr.free 0;have l0:=hp.lt;have l1:=hq.lt;refine wpS_of_wp ?_
 go_region
 all_goals
  refine⟨rfl,_,rfl,_,results_none rfl _ _ _,rfl,rfl,?_⟩
  exact⟨zq ((((hp.set5 _ _ _ _ _).other (p:=⟨p+1,0,none⟩) (by show p≠p+1;omega) _).other (p:=⟨p+2,0,none⟩) (by show p≠p+2;omega) _).alloc _),
   zq ((((hq.oth5 (g':=p) (by omega) _ _ _ _ _).putP 0 _).other (p:=⟨p+2,0,none⟩) (by show p+1≠p+2;omega) _).alloc _),
   zq ((((hr.oth5 (g':=p) (by omega) _ _ _ _ _).other (p:=⟨p+1,0,none⟩) (by show p+2≠p+1;omega) _).putP 0 _).alloc _),
   b5 _ _ _ _ _ _ _ _ (by omega)⟩
theorem kB{tmps:Array Value}{W:World}{p q r:Nat}{x0 x1 x2 x3 x4 y z:Value}(h2:tmps[4]?.getD undef= .pointer (some ⟨p,0,none⟩))(h3:tmps[5]?.getD undef= .pointer (some ⟨q,0,none⟩))(h4:tmps[6]?.getD undef= .pointer (some ⟨r,0,none⟩))
 (ha:ze W p 32 #[x0,x1,x2,x3,x4]) (hb:ze W q 25 #[y]) (hc:ze W r 3 #[z]):(results Tryz.f24 tmps).run Tryz.prog W= .ok (.tuple #[.agg #[x0,x1,x2,x3,x4],y,z]) W:=by
 have q0:=ha.cell 0;have q1:=ha.cell 1;have q2:=ha.cell 2;have q3:=ha.cell 3;have q4:=ha.cell 4;have r0:=hb.cell 0;have s0:=hc.cell 0;simp only[results,Tryz.results24];simp[h2,h3,h4,go_sem,q0,q1,q2,q3,q4,r0,s0]
end
section
open Go.ChangeShapes Go.WideShapes Go.ChangeAt Go.RowKit Go.MapKept
def zbb(B:Nat)(R:Except Er VK)(e:Ending)(w':World):Prop:=match R with
 | .error (ec,ek)=>e= .returned (.tuple #[.agg #[.slice none 0 0,.int .i64 0,.slice none 0 0,.int .i64 0,.bool false],.int .i64 (ec:Nat),.int .i64 ek])
 | .ok s=>∃vd vp,e= .returned (.tuple #[.agg #[vd,.int .i64 (s.jour:Nat),vp,.int .i64 (s.expo:Nat),.bool s.ro],.int .i64 0,.int .i64 (-1)])∧xm w' B s vd vp
theorem Zi{w:World}{base e size n:Nat}{v:Value}{xs:List Value}(h:w.ownsRow base e size v n xs):∃A C,v= .slice A n C:=by
 rcases h.2 with⟨e,h0⟩|⟨b,cap,cur,e,_⟩
 ·exact⟨none,0,by rw[e,h0]⟩
 ·exact⟨_,_,e⟩
theorem zM.oth5{E:Nat→Prop}{w:World}{cb:Nat}{V:CV}{c:Ck}(h:zM E w cb V c)(g:Nat)(hq:¬V.own cb g)(hE:¬E g)(x0 x1 x2 x3 x4:Value):zM E (ZB w g x0 x1 x2 x3 x4) cb V c:=((((h.other ⟨g,0,none⟩ hq hE x0).other ⟨g,1,none⟩ hq hE x1).other ⟨g,2,none⟩ hq hE x2).other ⟨g,3,none⟩ hq hE x3).other ⟨g,4,none⟩ hq hE x4
theorem vM.set5{F:Nat→Prop}{w w':World}(h:vM F w w'){g:Nat}(hq:w.heap.size≤g)(x0 x1 x2 x3 x4:Value):vM F w (ZB w' g x0 x1 x2 x3 x4):=((((h.set (q:=⟨g,0,none⟩) (.inr hq) x0).set (q:=⟨g,1,none⟩) (.inr hq) x1).set (q:=⟨g,2,none⟩) (.inr hq) x2).set (q:=⟨g,3,none⟩) (.inr hq) x3).set (q:=⟨g,4,none⟩) (.inr hq) x4
def E4(B S:Nat)(g:Nat):Prop:=B≤g∧(g<S∨S+4≤g)
theorem zav(w:World)(a b c d:Obj):Below w.heap.size w ((((w.alloc a).alloc b).alloc c).alloc d):=((((Below.refl _ w).alloc (Nat.le_refl _) a).alloc (by simp) b).alloc (by simp;omega) c).alloc (by simp;omega) d
theorem Hb{n:Nd}{i:Nat}{e:Er}(h:jR (uz (qo 0 n.l)) (n.l.take i)= .error e):Kz n= .error e:=by
 have:=Un _ (n.l.drop i) e _ h;rw[List.take_append_drop]at this;unfold Kz;unfold uz at this;rw[this]
theorem Hw{n:Nd}{c:Ck}(h:jR (uz (qo 0 n.l)) n.l= .ok c):Kz n=vw c:=by
 unfold Kz;unfold uz at h;rw[h]
theorem Yp{c:Ck}{s:VK}(h:vw c= .ok s):∃j x,c.jour=some j∧c.expo=some x∧s=⟨c.devs,j,c.parts,x,c.ro⟩:=by
 unfold vw at h;cases hj:c.jour with
 |none=>rw[hj]at h;cases h
 |some j =>
  cases hx:c.expo with
  |none=>rw[hj,hx]at h;cases h
  |some x =>
   rw[hj,hx]at h;simp only at h
   split at h
   ·cases h
   ·split at h
    ·cases h
    ·cases h;exact⟨j,x,rfl,rfl,rfl⟩
theorem XJ{w w3 w'':World}{cb B:Nat}{V:CV}(hcb:B≤cb)(hB:B≤w.heap.size)(hO:vM (V.own cb) w w3)(hbl:Below (w.heap.size+1) w3 w'')(hsz:w.heap.size+1≤w3.heap.size):vM (V.own cb) w w'':=
 ⟨hbl.os.trans hO.os,hbl.tape.trans hO.tape,hbl.output.trans hO.output,Nat.le_trans hO.size hbl.size,λk hk hn=>(hbl.block k (by omega)).trans (hO.block k hk hn)⟩
theorem gA{w0 w:World}{cb B:Nat}{V:CV}(h:zM (λg=>B≤g) w cb V (uz []))(hBc:B≤cb)(hBw:B≤w.heap.size)(n:Nd)(A:Option Addr)(C:Nat)(hr:jZ w0 n A C)(hcb:w0.heap.size≤cb-1)(hb0:Below w0.heap.size w0 w)(hst:∀x ∈ n.l,uZ x)(hlim:n.l.length≤80000):
 Calls Tryz.prog 24 #[.pointer (some ⟨cb,0,none⟩),.agg (zR n (.slice A n.l.length C))] w λe w'=>vM (V.own cb) w w'∧zbb B (Kz n) e w':=by
 obtain⟨L,hL⟩:∃L,L=n.l.length:=⟨_,rfl⟩
 have HL:=zz hL
 obtain⟨W4,hW4⟩:∃W4,W4=(((w.alloc (.cells #[.string (bs n.op),.string (bs n.s),.int .i64 n.n,.int .i64 n.a,.slice A L C] 24)).alloc (.cells #[.slice none 0 0,.int .i64 0,.slice none 0 0,.int .i64 0,.bool false] 32)).alloc (.cells #[.int .i64 0] 25)).alloc (.cells #[.int .i64 0] 3):=⟨_,rfl⟩
 have hb4:Below w.heap.size w W4:=by rw[hW4];exact zav w _ _ _ _
 have N4:ze W4 w.heap.size 24 #[.string (bs n.op),.string (bs n.s),.int .i64 n.n,.int .i64 n.a,.slice A L C]:=by rw[hW4];exact(((ze.new w _ _).alloc _).alloc _).alloc _
 have P4:ze W4 (w.heap.size+1) 32 #[.slice none 0 0,.int .i64 0,.slice none 0 0,.int .i64 0,.bool false]:=by rw[hW4];exact((ze.new_at (by simp)).alloc _).alloc _
 have Q4:ze W4 (w.heap.size+1+1) 25 #[.int .i64 0]:=by rw[hW4];exact(ze.new_at (by simp)).alloc _
 have R4:ze W4 (w.heap.size+1+1+1) 3 #[.int .i64 0]:=by rw[hW4];exact ze.new_at (by simp)
 have HZ4:=zz (show W4.heap.size=w.heap.size+4 by rw[hW4];simp);have h4:=(h.mono (E':=E4 B w.heap.size) (λk hk _ he=>⟨he,.inl hk⟩)).keep hb4;have lcb:=h.has.lt;have HW:=zz hW4;have hno:∀k,w.heap.size≤k→¬V.own cb k:=λk hk e=>by have:=(h.low e).2;omega
 have HNO:=zz hno;have hdc:=dN h4 (⟨hr.rd,hb0.trans (hb4.mono hb0.size)⟩:YX w0 W4 n.l A C) hcb hlim (λx hx ho=>(hst x hx).num (.inl ho));have hlen:=hr.len;have HST:=zz hst;rw[←hL]at hdc hlen hlim ⊢;rw[hW4]at hdc;clear hW4 hL hno hst;unfold zR
 go_enter_defers Tryz.func24,Tryz.ntmps24
 go_wp2_with (first
  |((go_at_call 51)
    refine hdc.mono ?_;rintro e w1 ⟨rfl,V1,H1,S1'⟩;(have S1:je cb V W4 V1 w1:=by rw[HW.out];exact S1');have N1:ze w1 w.heap.size 24 #[.string (bs n.op),.string (bs n.s),.int .i64 n.n,.int .i64 n.a,.slice A L C]:=(S1.inner _ N4.lt (HNO.out _ (Nat.le_refl _))).1.trans N4;have n4:=N1.cell 4;have nl:=N1.lt;(simp only[jg,jd,jf]at n4)))
 clear hdc S1'
 go_loopw [17] (λz wr=>∃(i:Nat) (V':CV) (c':Ck),z= .int .i64 (i:Nat)∧i≤L∧zM (E4 B w.heap.size) wr cb V' c'∧je cb V W4 V' wr∧Xn n.l (n.l.take i) c'∧Hid (jR (uz (qo 0 n.l)) (n.l.take i)= .ok c')) (λz _=>L-(intOf z).toNat)
 case atStart=>exact⟨0,V1,uz (qo 0 n.l),rfl,Nat.zero_le _,H1,S1,Xn.start _,zz rfl⟩
 case round =>
  obtain⟨i,V2,c2,rfl,hi,H2,S2,I2,HC2⟩:=hrel;have hBr:Below (cb-1) W4 wr:=S2.only.below (by have:=HZ4.out;omega) (λk hk=>by have:=(h4.low hk).1;omega);have hB0r:Below w0.heap.size w0 wr:=(hb0.trans (hb4.mono hb0.size)).trans (hBr.mono hcb);have hkeep:∀k,w.heap.size≤k→k<W4.heap.size→wr.heap[k]?=W4.heap[k]?∧¬V2.own cb k:=λk hk hk'=>S2.inner k hk' (HNO.out k hk)
  have Pr:ze wr (w.heap.size+1) 32 #[.slice none 0 0,.int .i64 0,.slice none 0 0,.int .i64 0,.bool false]:=(hkeep _ (by omega) P4.lt).1.trans P4;have Qr:ze wr (w.heap.size+1+1) 25 #[.int .i64 0]:=(hkeep _ (by omega) Q4.lt).1.trans Q4;have Rr:ze wr (w.heap.size+1+1+1) 3 #[.int .i64 0]:=(hkeep _ (by omega) R4.lt).1.trans R4;have HOr:=zz (show vM (V.own cb) w wr from(vM.of hb4).trans S2.only);have HNO2:=zz (λk (hk:w.heap.size≤k) (hk':k<W4.heap.size)=>(hkeep k hk hk').2);by_cases hlt:i<L
  ·have hil:i<n.l.length:=by rw[←HL.out];exact hlt
   obtain⟨g,off,An,Cn,eA,hg,hat,hrn⟩:=YX.get (⟨hr.rd,hB0r⟩:YX w0 wr n.l A C) hil;subst eA;have hint:(i:Int)<(L:Int):=by omega
   have hm:=HST.out _ (List.getElem_mem hil)
   have HSN:=zz (show jR (uz (qo 0 n.l)) (n.l.take (i+1))=jH c2 n.l[i] by
    rw[List.take_succ_eq_append_getElem hil,Kt,HC2.out])
   have HIV:=zz (λc' (q:jH c2 n.l[i]= .ok c')=>I2.step (l:=n.l) (q:=n.l.take i) (r:=n.l.drop (i+1)) (x:=n.l[i]) (by rw[List.getElem_cons_drop,List.take_append_drop]) hm q);have HTK:=zz (List.take_succ_eq_append_getElem hil);have hstm:=XK (H2.alloc (.cells #[.string (bs n.l[i].op),.string (bs n.l[i].s),.int .i64 n.l[i].n,.int .i64 n.l[i].a,.slice An n.l[i].l.length Cn] 24)) n.l[i] An Cn hrn hcb (hB0r.trans ((zd wr _).mono hB0r.size)) hm I2.nms I2.byts (by have h1:=I2.le8;have h2:=I2.devs;rw[h2,List.length_map];omega) (by have h1:=I2.nlen;have h2:(n.l.take i).length≤i:=(by simp;omega);omega);generalize n.l[i]=m at *;have hbn:=zd wr (.cells #[.string (bs m.op),.string (bs m.s),.int .i64 m.n,.int .i64 m.a,.slice An m.l.length Cn] 24);have S2n:je cb V W4 V2 (wr.alloc (.cells #[.string (bs m.op),.string (bs m.s),.int .i64 m.n,.int .i64 m.a,.slice An m.l.length Cn] 24)):=S2.trans (je.of hbn);have hBn:B≤(wr.alloc (.cells #[.string (bs m.op),.string (bs m.s),.int .i64 m.n,.int .i64 m.a,.slice An m.l.length Cn] 24)).heap.size:=by have:=hbn.size;have:=HOr.out.size;omega
   have Pn:=Pr.alloc (.cells #[.string (bs m.op),.string (bs m.s),.int .i64 m.n,.int .i64 m.a,.slice An m.l.length Cn] 24);have Qn:=Qr.alloc (.cells #[.string (bs m.op),.string (bs m.s),.int .i64 m.n,.int .i64 m.a,.slice An m.l.length Cn] 24);have Rn:=Rr.alloc (.cells #[.string (bs m.op),.string (bs m.s),.int .i64 m.n,.int .i64 m.a,.slice An m.l.length Cn] 24);have hw4s:=HZ4.out;cases hS:jH c2 m with
   |error er =>
    obtain⟨ec,ek⟩:=er;rw[hS]at hstm;have HR:=zz (Hb (n:=n) (i:=i+1) (HSN.out.trans hS));unfold zR at hstm;clear hS hw4s
    go_wp2_with (first
     |((refine zf 19 rfl ?_)
       (refine zb (some 19) _ rfl (by rfl) (qF _ _ rfl g off i L C rfl rfl hlt wr) ?_))
     |((refine zf 20 rfl ?_)
       refine zb (some 20) _ rfl (by rfl) (qQ _ rfl g (off+i*5) rfl wr hat) ?_;(unfold Qp))
     |((go_at_call 52)
       refine hstm.mono ?_;(rintro e w5 ⟨ho5,rfl⟩)))
    have hne:∀k,w.heap.size≤k→k<W4.heap.size→w5.heap[k]?=(wr.alloc (.cells #[.string (bs m.op),.string (bs m.s),.int .i64 m.n,.int .i64 m.a,.slice An m.l.length Cn] 24)).heap[k]?:=λk hk hk'=>ho5.block k (Nat.lt_of_lt_of_le hk' S2n.only.size) (HNO2.out k hk hk')
    have hw4s:=HZ4.out;have P5:ze w5 (w.heap.size+1) 32 _:=(hne _ (by omega) (by omega)).trans Pn;have Q5:ze w5 (w.heap.size+1+1) 25 _:=(hne _ (by omega) (by omega)).trans Qn;have R5:ze w5 (w.heap.size+1+2) 3 _:=(hne _ (by omega) (by omega)).trans Rn;refine leaves_cons (f:=50) (args:=#[.pointer (some ⟨w.heap.size+1,0,none⟩),.pointer (some ⟨w.heap.size+1+1,0,none⟩),.pointer (some ⟨w.heap.size+1+1+1,0,none⟩)]) (by simp) (by simp[go_sem]) ?_;refine(Qc ec ek (w.heap.size+1) _ _ _ _ _ _ _ _ P5 Q5 R5).mono ?_;rintro e u' w'' ⟨rfl,rfl,F1,F2,F3,hbl⟩;have S05:=((je.of (cb:=cb) (V:=V) hb4).trans S2n).trans (⟨ho5,λ_ q=> .inl q⟩:je cb V2 _ V2 w5);refine⟨_,kB rfl rfl rfl F1 F2 F3,XJ hBc hBw S05.only hbl (by have:=P5.lt;omega),?_⟩;rw[HR.out];rfl
   |ok c3 =>
    rw[hS]at hstm;have HS:=zz hS;unfold zR at hstm;clear hS hw4s
    go_wp2_with (first
     |((refine zf 19 rfl ?_)
       (refine zb (some 19) _ rfl (by rfl) (qF _ _ rfl g off i L C rfl rfl hlt wr) ?_))
     |((refine zf 20 rfl ?_)
       refine zb (some 20) _ rfl (by rfl) (qQ _ rfl g (off+i*5) rfl wr hat) ?_;(unfold Qp))
     |((go_at_call 52)
       refine hstm.mono ?_;(rintro e w5 ⟨ho5,rfl,V5,H5,S5⟩)))
    go_roundw
    case rel=>exact⟨i+1,V5,c3,by go_num,by omega,H5.mono (λg _ _ he=>by
     rcases he with he|he
     ·exact he
     ·exact⟨Nat.le_trans hBn he,.inr (by have:=S2n.only.size;have:=HZ4.out;omega)⟩),S2n.trans S5,by rw[HTK.out];exact HIV.out c3 HS.out,zz (HSN.out.trans HS.out)⟩
    case measure=>simp[intOf];omega
  ·obtain rfl:i=L:=by omega
   have htk:n.l.take i=n.l:=by rw[HL.out,List.take_length]
   rw[htk]at I2 HC2;have hwh:=dR H2 I2.wf I2.expo;have HCH:=zz (Hw HC2.out);have hw4s:=HZ4.out;have hrs:=hBr.size;have S02:=(je.of (cb:=cb) (V:=V) hb4).trans S2;cases hS:vw c2 with
   |error er =>
    obtain⟨ec,ek⟩:=er;rw[hS]at hwh;have HR:=zz (HCH.out.trans hS);clear hS htk
    go_wp2_with (first
     |((go_at_call 53)
       refine hwh.mono ?_;(rintro e w5 ⟨hb5,rfl⟩)))
    have P5:=Pr.below hb5 Pr.lt;have Q5:=Qr.below hb5 Qr.lt;have R5:=Rr.below hb5 Rr.lt;refine leaves_cons (f:=50) (args:=#[.pointer (some ⟨w.heap.size+1,0,none⟩),.pointer (some ⟨w.heap.size+1+1,0,none⟩),.pointer (some ⟨w.heap.size+1+1+1,0,none⟩)]) (by simp) (by simp[go_sem]) ?_;refine(Qc ec ek (w.heap.size+1) _ _ _ _ _ _ _ _ P5 Q5 R5).mono ?_;rintro e u' w'' ⟨rfl,rfl,F1,F2,F3,hbl⟩;refine⟨_,kB rfl rfl rfl F1 F2 F3,XJ hBc hBw (S02.trans (je.of (cb:=cb) (V:=V2) hb5)).only hbl (by have:=P5.lt;omega),?_⟩;rw[HR.out];rfl
   |ok s =>
    rw[hS]at hwh;have HR:=zz (HCH.out.trans hS);obtain⟨j,x,ej,ex,es⟩:=Yp hS;subst es;obtain⟨Ad,Cd,evd⟩:=Zi H2.devs;obtain⟨us,eus,hrp,_⟩:=H2.prts;obtain⟨Ap,Cp,evp⟩:=Zi hrp;have hcc:=H2.has;rw[ej,ex,evd,evp]at hcc;change ze wr cb 68 #[.slice Ad c2.devs.length Cd,.int .i64 (j:Nat),.slice Ap c2.parts.length Cp,.int .i64 (x:Nat),.bool c2.ro,.map (some V2.mb),V2.vb,.int .i64 c2.eat]at hcc;have HVD:=zz evd;have HVP:=zz evp
    obtain⟨DL,hDL⟩:∃DL,DL=c2.devs.length:=⟨_,rfl⟩
    obtain⟨PL,hPL⟩:∃PL,PL=c2.parts.length:=⟨_,rfl⟩
    rw[←hDL]at hcc HVD;rw[←hPL]at hcc HVP;clear hS htk hDL hPL evd evp ej ex
    go_wp2_with (first
     |((go_at_call 53)
       refine hwh.mono ?_;rintro e w5 ⟨hb5,rfl⟩;have P5:=Pr.below hb5 Pr.lt;have Q5:=Qr.below hb5 Qr.lt;have R5:=Rr.below hb5 Rr.lt;have K5:=hcc.below hb5 hcc.lt;have a0:=P5.cell 0;have a1:=P5.cell 1;have a2:=P5.cell 2;have a3:=P5.cell 3;have a4:=P5.cell 4;have f0:=P5.free 0;have f1:=P5.free 1;have f2:=P5.free 2;have f3:=P5.free 3;have f4:=P5.free 4;have b0:=Q5.cell 0;have g0:=Q5.free 0;have d0:=R5.cell 0;have i0:=R5.free 0;have k0:=K5.cell 0;have k1:=K5.cell 1;have k2:=K5.cell 2;have k3:=K5.cell 3;have k4:=K5.cell 4;simp only[jg,jd,jf]at a0 a1 a2 a3 a4 b0 d0 k0 k1 k2 k3 k4;have la:=P5.lt;have lb:=Q5.lt;have lc:=R5.lt;(have lk:=K5.lt)))
    refine leaves_cons (f:=50) (args:=#[.pointer (some ⟨w.heap.size+1,0,none⟩),.pointer (some ⟨w.heap.size+1+1,0,none⟩),.pointer (some ⟨w.heap.size+1+1+1,0,none⟩)]) (by simp) (by simp[go_sem]) ?_;refine(fh ⟨w.heap.size+1,0,none⟩ ⟨w.heap.size+1+1,0,none⟩ ⟨w.heap.size+1+1+1,0,none⟩ _).mono ?_;rintro e u' w'' ⟨rfl,rfl,rfl⟩;have n1:w.heap.size+1≠w.heap.size+1+1:=by omega
    have n2:w.heap.size+1≠w.heap.size+1+1+1:=by omega
    have n3:w.heap.size+1+1≠w.heap.size+1+1+1:=by omega
    have F1:=((P5.set5 (.slice Ad DL Cd) (.int .i64 (j:Nat)) (.slice Ap PL Cp) (.int .i64 (x:Nat)) (.bool c2.ro)).other (p:=⟨w.heap.size+1+1,0,none⟩) n1 (.int .i64 0)).other (p:=⟨w.heap.size+1+1+1,0,none⟩) n2 (.int .i64 (-1));have F2:=((Q5.oth5 (g':=w.heap.size+1) (Ne.symm n1) (.slice Ad DL Cd) (.int .i64 (j:Nat)) (.slice Ap PL Cp) (.int .i64 (x:Nat)) (.bool c2.ro)).putP 0 (.int .i64 0)).other (p:=⟨w.heap.size+1+1+1,0,none⟩) n3 (.int .i64 (-1));have F3:=((R5.oth5 (g':=w.heap.size+1) (Ne.symm n2) (.slice Ad DL Cd) (.int .i64 (j:Nat)) (.slice Ap PL Cp) (.int .i64 (x:Nat)) (.bool c2.ro)).other (p:=⟨w.heap.size+1+1,0,none⟩) (Ne.symm n3) (.int .i64 0)).putP 0 (.int .i64 (-1));have O5:=(S02.trans (je.of (cb:=cb) (V:=V2) hb5)).only;have O7:=((O5.set5 (g:=w.heap.size+1) (by omega) (.slice Ad DL Cd) (.int .i64 (j:Nat)) (.slice Ap PL Cp) (.int .i64 (x:Nat)) (.bool c2.ro)).set (q:=⟨w.heap.size+1+1,0,none⟩) (.inr (by show w.heap.size≤w.heap.size+1+1;omega)) (.int .i64 0)).set (q:=⟨w.heap.size+1+1+1,0,none⟩) (.inr (by show w.heap.size≤w.heap.size+1+1+1;omega)) (.int .i64 (-1))
    have hE:∀k,w.heap.size≤k→k<w.heap.size+4→¬E4 B w.heap.size k:=λk h1 h2 e=>by
     rcases e.2 with q|q<;>omega
    have u2:=HNO2.out (w.heap.size+1+1) (by omega) (by omega);have u3:=HNO2.out (w.heap.size+1+1+1) (by omega) (by omega);have t2:=hE (w.heap.size+1+1) (by omega) (by omega);have t3:=hE (w.heap.size+1+1+1) (by omega) (by omega);have H7:=(((H2.keep hb5).oth5 (w.heap.size+1) (HNO2.out _ (by omega) (by omega)) (hE _ (by omega) (by omega)) (.slice Ad DL Cd) (.int .i64 (j:Nat)) (.slice Ap PL Cp) (.int .i64 (x:Nat)) (.bool c2.ro)).other ⟨w.heap.size+1+1,0,none⟩ u2 t2 (.int .i64 0)).other ⟨w.heap.size+1+1+1,0,none⟩ u3 t3 (.int .i64 (-1));have HSK:=(H7.mono (E':=λg=>B≤g) (λg _ _ he=>he.1)).stk hBc ⟨c2.devs,j,c2.parts,x,c2.ro⟩ rfl rfl;rw[HVD.out,HVP.out]at HSK;refine⟨_,kB rfl rfl rfl F1 F2 F3,O7,?_⟩;rw[HR.out];exact⟨_,_,rfl,HSK⟩
def jK(n:Nd):Except Er VK:=if xP n=true then Kz n else .error (111,0)
theorem Yd{n:Nd}(h:xP n=true)(hl:JS n):∀x ∈ n.l,uZ x:=λx hx=>by
 unfold xP at h;simp only[Bool.and_eq_true,List.all_eq_true]at h;exact gp (h.1.1.1 x hx) (hl.all x hx)
theorem U8{fn:Func}{R:Ending→World→Prop}{a:Act}{W:World}{s t u g:Nat}{x0 x1 x2 x3 x4 y z:Value}(hr:fn.results= #[.cell s 32,.tmp t,.tmp u])(hs:a.tmps[s]?.getD undef= .pointer (some ⟨g,0,none⟩))(ht:a.tmps[t]?.getD undef=y)(hu:a.tmps[u]?.getD undef=z)(hH:ze W g 32 #[x0,x1,x2,x3,x4])(hd:a.defers= [])(h:R (.returned (.tuple #[.agg #[x0,x1,x2,x3,x4],y,z])) W):bodyPost Tryz.prog fn R .ret a W:=by
 have q0:=hH.cell 0;have q1:=hH.cell 1;have q2:=hH.cell 2;have q3:=hH.cell 3;have q4:=hH.cell 4;exact bodyPost_ret (by simp only[results,hr];simp[hs,ht,hu,go_sem,q0,q1,q2,q3,q4]) hd h
theorem xm.low{w:World}{B B':Nat}{s:VK}{vd vp:Value}(h:xm w B s vd vp)(hb:B'≤B):xm w B' s vd vp:=by
 obtain⟨us,e,hr,hi⟩:=h.prts;exact⟨QB h.devs hb,us,e,QB hr hb,λi a b=>(hi i a b).keep (Nat.le_refl _) (λk _ hP=>⟨rfl,Nat.le_trans hb hP⟩)⟩
theorem Dw(w3:World)(B:Nat):zM (λg=>B≤g) ((w3.alloc (.map #[] 0)).alloc (.cells #[.slice none 0 0,.int .i64 (-1),.slice none 0 0,.int .i64 (-1),.bool false,.map (some w3.heap.size),.slice none 0 0,.int .i64 0] 68)) (w3.heap.size+1) ⟨.slice none 0 0,.slice none 0 0,.slice none 0 0,w3.heap.size⟩ (uz []):=
 ⟨ze.new_at (by simp),⟨rfl,.inl ⟨rfl,rfl⟩⟩,⟨rfl,.inl ⟨rfl,rfl⟩⟩,⟨[],rfl,⟨rfl,.inl ⟨rfl,rfl⟩⟩,λi h=>absurd h (Nat.not_lt_zero _)⟩,⟨[],rfl,(Below.heap_alloc _ _ _ (by simp)).trans (heap_alloc_new w3 _),λi h=>absurd h (Nat.not_lt_zero _)⟩,List.Pairwise.nil,Nat.le_refl _,by decide⟩
theorem fY{w W:World}{B g:Nat}(h:Below B w W)(hg:B≤g)(x0 x1 x2 x3 x4:Value):Below B w (ZB W g x0 x1 x2 x3 x4):=
 ((((h.setCell (p:=⟨g,0,none⟩) hg x0).setCell (p:=⟨g,1,none⟩) hg x1).setCell (p:=⟨g,2,none⟩) hg x2).setCell (p:=⟨g,3,none⟩) hg x3).setCell (p:=⟨g,4,none⟩) hg x4
theorem Hd(w:World){g k:Nat}(h:k≠g)(x0 x1 x2 x3 x4:Value):(ZB w g x0 x1 x2 x3 x4).heap[k]?=w.heap[k]?:=
 (Below.heap_setCell _ ⟨g,4,none⟩ x4 k h).trans ((Below.heap_setCell _ ⟨g,3,none⟩ x3 k h).trans ((Below.heap_setCell _ ⟨g,2,none⟩ x2 k h).trans ((Below.heap_setCell _ ⟨g,1,none⟩ x1 k h).trans (Below.heap_setCell w ⟨g,0,none⟩ x0 k h))))
theorem Zm{w3 w5:World}{a b:Obj}(h:vM ((⟨.slice none 0 0,.slice none 0 0,.slice none 0 0,w3.heap.size⟩:CV).own (w3.heap.size+1)) ((w3.alloc a).alloc b) w5){k:Nat}(hk:k<w3.heap.size):w5.heap[k]?=w3.heap[k]?:=by
 refine(h.block k (by simp;omega) (λe=>?_)).trans ((qv w3 a b).block k hk);rcases e with e|e|e|e|e
 ·omega
 ·cases e
 ·cases e
 ·cases e
 ·have :k=w3.heap.size:=e;omega
theorem Z9{w3 w5:World}{B:Nat}{a b:Obj}(h:vM ((⟨.slice none 0 0,.slice none 0 0,.slice none 0 0,w3.heap.size⟩:CV).own (w3.heap.size+1)) ((w3.alloc a).alloc b) w5)(hB:B≤w3.heap.size):Below B w3 w5:=by
 have h0:=qv w3 a b;exact⟨h.os.trans h0.os,h.tape.trans h0.tape,h.output.trans h0.output,Nat.le_trans h0.size h.size,λk hk=>Zm h (by omega)⟩
theorem ud{w:World}{B:Nat}{s:VK}{vd vp:Value}(h:xm w B s vd vp):∃A C,vp= .slice A s.parts.length C:=by
 obtain⟨us,e,hr,hi⟩:=h.prts;exact Zi hr
theorem QM(n:Nd)(A:Option Addr)(C:Nat)(w:World)(h:jZ w n A C)(hl:JS n):Calls Tryz.prog 11 #[.agg (zR n (.slice A n.l.length C))] w λe w'=>Below w.heap.size w w'∧zbb w.heap.size (jK n) e w':=by
 obtain⟨L,hL⟩:∃L,L=n.l.length:=⟨_,rfl⟩
 have HL:=zz hL
 obtain⟨W2,hW2⟩:∃W2,W2=(w.alloc (.cells #[.string (bs n.op),.string (bs n.s),.int .i64 n.n,.int .i64 n.a,.slice A L C] 24)).alloc (.cells #[.slice none 0 0,.int .i64 0,.slice none 0 0,.int .i64 0,.bool false] 32):=⟨_,rfl⟩
 have hb2:Below w.heap.size w W2:=by rw[hW2];exact qv w _ _
 have N2:ze W2 w.heap.size 24 #[.string (bs n.op),.string (bs n.s),.int .i64 n.n,.int .i64 n.a,.slice A L C]:=by rw[hW2];exact(ze.new w _ _).alloc _
 have P2:ze W2 (w.heap.size+1) 32 #[.slice none 0 0,.int .i64 0,.slice none 0 0,.int .i64 0,.bool false]:=by rw[hW2];exact ze.new_at (by simp)
 have hrt:=Gl n A C W2 (h.grow hb2);have HW:=zz hW2;have hlen:=h.len;have HCK:=zz (λw3 (hb:Below w.heap.size w w3) (hz:w.heap.size+2≤w3.heap.size) (hst:∀x ∈ n.l,uZ x)=>gA (Dw w3 (w.heap.size+2)) (by omega) (by simp;omega) n A C h (by have:=hb.size;omega) (hb.trans ((qv w3 _ _).mono hb.size)) hst hl.len);have HST:=zz (λ(q:xP n=true)=>Yd q hl);rw[←hL]at hrt hlen HCK ⊢;rw[hW2]at hrt;clear hW2 hL;cases hR:xP n with
 |false =>
  have HR:=zz (show jK n= .error (111,0) by unfold jK;rw[if_neg (by rw[hR];decide)]);rw[hR]at hrt;clear hR;unfold zR at hrt ⊢;go_enter Tryz.func11,Tryz.ntmps11
  go_wp2_with (first
   |((go_at_call 23)
     refine hrt.mono ?_;rintro e w3 ⟨rfl,hb3'⟩;(have hb3:Below W2.heap.size W2 w3:=by rw[HW.out];exact hb3');have P3:=P2.below hb3 P2.lt;have a0:=P3.cell 0;have a1:=P3.cell 1;have a2:=P3.cell 2;have a3:=P3.cell 3;have a4:=P3.cell 4;have f0:=P3.free 0;have f1:=P3.free 1;have f2:=P3.free 2;have f3:=P3.free 3;have f4:=P3.free 4;(have la:=P3.lt)))
  refine U8 rfl rfl rfl rfl (P3.set5 _ _ _ _ _) rfl ?_;refine⟨fY (hb2.trans (hb3.mono hb2.size)) (Nat.le_succ _) _ _ _ _ _,?_⟩;rw[HR.out];rfl
 |true =>
  have HR:=zz (show jK n=Kz n by unfold jK;rw[if_pos hR]);have hst:=HST.out hR;have HCC:=zz (λw3 hb hz=>HCK.out w3 hb hz hst);rw[hR]at hrt;clear hR hst;cases hC:Kz n with
  |error er =>
   obtain⟨ec,ek⟩:=er;have HR:=zz (HR.out.trans hC);rw[hC]at HCC;clear hC;unfold zR at hrt HCC ⊢;go_enter Tryz.func11,Tryz.ntmps11
   go_wp2_with (first
    |((go_at_call 23)
      refine hrt.mono ?_;rintro e w3 ⟨rfl,hb3'⟩;(have hb3:Below W2.heap.size W2 w3:=by rw[HW.out];exact hb3');have hb03:=hb2.trans (hb3.mono hb2.size);have P3:=P2.below hb3 P2.lt;have N3:=N2.below hb3 N2.lt;have hck:=HCC.out w3 hb03 (by have:=P3.lt;omega);have b0:=N3.cell 0;have b1:=N3.cell 1;have b2:=N3.cell 2;have b3:=N3.cell 3;have b4:=N3.cell 4;simp only[jg,jd,jf]at b0 b1 b2 b3 b4;have la:=P3.lt;(have lb:=N3.lt))
    |((refine zf 11 rfl ?_)
      (refine j1 (some 11) (.map (some w3.heap.size)) (w3.alloc (.map #[] 0)) rfl (by rfl) (by kernel_rfl) ?_))
    |((go_at_call 24)
      refine hck.mono ?_;rintro e w5 ⟨ho5,rfl⟩;have hP5:=Zm ho5 (k:=w.heap.size+1) (by omega);have P5:ze w5 (w.heap.size+1) 32 #[.slice none 0 0,.int .i64 0,.slice none 0 0,.int .i64 0,.bool false]:=hP5.trans P3;have a0:=P5.cell 0;have a1:=P5.cell 1;have a2:=P5.cell 2;have a3:=P5.cell 3;have a4:=P5.cell 4;have f0:=P5.free 0;have f1:=P5.free 1;have f2:=P5.free 2;have f3:=P5.free 3;have f4:=P5.free 4;(have lp:=P5.lt)))
   refine U8 rfl rfl rfl rfl (P5.set5 _ _ _ _ _) rfl ?_;refine⟨fY (hb03.trans (Z9 ho5 hb03.size)) (Nat.le_succ _) _ _ _ _ _,?_⟩;rw[HR.out];rfl
  |ok s =>
   have HR:=zz (HR.out.trans hC);rw[hC]at HCC;clear hC;unfold zR at hrt HCC ⊢;go_enter Tryz.func11,Tryz.ntmps11
   go_wp2_with (first
    |((go_at_call 23)
      refine hrt.mono ?_;rintro e w3 ⟨rfl,hb3'⟩;(have hb3:Below W2.heap.size W2 w3:=by rw[HW.out];exact hb3');have hb03:=hb2.trans (hb3.mono hb2.size);have P3:=P2.below hb3 P2.lt;have N3:=N2.below hb3 N2.lt;have hck:=HCC.out w3 hb03 (by have:=P3.lt;omega);have b0:=N3.cell 0;have b1:=N3.cell 1;have b2:=N3.cell 2;have b3:=N3.cell 3;have b4:=N3.cell 4;simp only[jg,jd,jf]at b0 b1 b2 b3 b4;have la:=P3.lt;(have lb:=N3.lt))
    |((refine zf 11 rfl ?_)
      (refine j1 (some 11) (.map (some w3.heap.size)) (w3.alloc (.map #[] 0)) rfl (by rfl) (by kernel_rfl) ?_))
    |((go_at_call 24)
      refine hck.mono ?_;rintro e w5 ⟨ho5,vd,vp,rfl,hsk⟩;obtain⟨Ad,Cd,evd⟩:=Zi hsk.devs;obtain⟨Ap,Cp,evp⟩:=ud hsk;subst evd evp;have hP5:=Zm ho5 (k:=w.heap.size+1) (by omega);have P5:ze w5 (w.heap.size+1) 32 #[.slice none 0 0,.int .i64 0,.slice none 0 0,.int .i64 0,.bool false]:=hP5.trans P3;have a0:=P5.cell 0;have a1:=P5.cell 1;have a2:=P5.cell 2;have a3:=P5.cell 3;have a4:=P5.cell 4;have f0:=P5.free 0;have f1:=P5.free 1;have f2:=P5.free 2;have f3:=P5.free 3;have f4:=P5.free 4;(have lp:=P5.lt)))
   refine U8 rfl rfl rfl rfl (P5.set5 _ _ _ _ _) rfl ?_;refine⟨fY (hb03.trans (Z9 ho5 hb03.size)) (Nat.le_succ _) _ _ _ _ _,?_⟩;rw[HR.out];refine⟨_,_,rfl,(hsk.keep (by simp) (λk hk hB=>?_)).low (by omega)⟩;exact Hd w5 (by omega) _ _ _ _ _
end
section
inductive qL:Nd→Nd→Prop where
 |mk (o s:List UInt8) (n a b:Int) (l l':List Nd):l.length=l'.length→(∀i (h:i<l.length) (h':i<l'.length),qL l[i] l'[i])→qL (.mk o s n a l) (.mk o s n b l')
end
section
inductive AL:List Nd→List Nd→Prop where
 |nil:AL [] []
 |cons {x y:Nd} {l m:List Nd}:qL x y→AL l m→AL (x::l) (y::m)
theorem AL.len{l m:List Nd}(h:AL l m):l.length=m.length:=by
 induction h with
 |nil=>rfl
 |cons _ _ ih=>simp[ih]
theorem AL.get{l m:List Nd}(h:AL l m):∀i (h1:i<l.length) (h2:i<m.length),qL l[i] m[i]:=by
 induction h with
 |nil=>intro i h1;simp at h1
 |cons hx _ ih =>
  intro i h1 h2;cases i with
  |zero=>exact hx
  |succ i=>exact ih i (by simpa using h1) (by simpa using h2)
theorem qL.of{o s:List UInt8}{n a b:Int}{l l':List Nd}(h:AL l l'):qL (.mk o s n a l) (.mk o s n b l'):= .mk o s n a b l l' h.len h.get
theorem AL.append{l m l' m':List Nd}(h:AL l m)(h':AL l' m'):AL (l++l') (m++m'):=by
 induction h with
 |nil=>exact h'
 |cons hx _ ih=>exact .cons hx ih
theorem qL.symm{x y:Nd}(h:qL x y):qL y x:=by
 induction h with
 |mk o s n a b l l' hl hk ih=>exact .mk o s n b a l' l hl.symm (λi h h'=>ih i h' h)
theorem AL.symm{l m:List Nd}(h:AL l m):AL m l:=by
 induction h with
 |nil=>exact .nil
 |cons hx _ ih=>exact .cons hx.symm ih
theorem AL.of_get{l m:List Nd}(hl:l.length=m.length)(h:∀i (h1:i<l.length) (h2:i<m.length),qL l[i] m[i]):AL l m:=by
 induction l generalizing m with
 |nil=>cases m with
  |nil=>exact .nil
  |cons y m=>simp at hl
 |cons x l ih =>
  cases m with
  |nil=>simp at hl
  |cons y m=>exact .cons (h 0 (by simp) (by simp)) (ih (by simpa using hl) (λi h1 h2=>h (i+1) (by simpa using h1) (by simpa using h2)))
def Qq(ts:zo):List Tk:=ts.map Prod.fst
def Lk{α β:Type}(R:α→β→Prop)(P:jk α)(Q:jk β):Prop:=∀en en' ts us,Qq ts=Qq us→∀x r,P en ts= .ok (x,r)→∃y s,Q en' us= .ok (y,s)∧R x y∧Qq r=Qq s
theorem Lk.ret{α β:Type}{R:α→β→Prop}{x:α}{y:β}(h:R x y):Lk R (qT x) (qT y):=by
 intro en en' ts us e x' r hx;cases hx;exact⟨y,us,rfl,h,e⟩
theorem Lk.bind{α β γ δ:Type}{R:α→β→Prop}{S:γ→δ→Prop}{P:jk α}{Q:jk β}{f:α→jk γ}{g:β→jk δ}(h:Lk R P Q)(hf:∀x y,R x y→Lk S (f x) (g y)):Lk S (zt P f) (zt Q g):=by
 intro en en' ts us e x r hx;unfold zt at hx;cases hp:P en ts with
 |error er=>rw[hp]at hx;cases hx
 |ok z =>
  obtain⟨z,t⟩:=z;rw[hp]at hx;obtain⟨y,s,hq,hr,e2⟩:=h en en' ts us e z t hp;obtain⟨y2,s2,hq2,hr2,e3⟩:=hf z y hr en en' t s e2 x r hx;refine⟨y2,s2,?_,hr2,e3⟩;unfold zt;rw[hq];exact hq2
theorem Lk.take(p:Tk→Bool):Lk (λt u:Tk×Nat=>t.1=u.1) (zn p) (zn p):=by
 intro en en' ts us e x r hx;cases ts with
 |nil=>cases hx
 |cons t ts =>
  cases us with
  |nil=>cases e
  |cons u us =>
   simp only[Qq,List.map_cons,List.cons.injEq]at e;simp only[zn]at hx
   split at hx
   ·rename_i hp
    cases hx;exact⟨u,us,by simp only[zn];rw[←e.1,if_pos hp],e.1,e.2⟩
   ·cases hx
theorem Lk.fork{α β:Type}{R:α→β→Prop}(p:Tk→Bool){P P':jk α}{Q Q':jk β}(h:Lk R P Q)(h':Lk R P' Q'):Lk R (QS p P P') (QS p Q Q'):=by
 intro en en' ts us e x r hx
 have hc:qz p ts=qz p us:=by
  cases ts with
  |nil=>cases us with
   |nil=>rfl
   |cons u us=>cases e
  |cons t ts=>cases us with
   |nil=>cases e
   |cons u us=>simp only[Qq,List.map_cons,List.cons.injEq]at e;simp only[qz,e.1]
 unfold QS at hx ⊢;rw[←hc]
 split at hx
 ·rename_i h0
  simp only[if_pos h0];exact h en en' ts us e x r hx
 ·rename_i h0
  simp only[if_neg h0];exact h' en en' ts us e x r hx
theorem Lk.ite{α β:Type}{R:α→β→Prop}(c:Prop)[Decidable c]{P P':jk α}{Q Q':jk β}(h:Lk R P Q)(h':Lk R P' Q'):Lk R (if c then P else P') (if c then Q else Q'):=by
 split
 ·exact h
 ·exact h'
theorem uN{pe:jk Nd}(h:Lk qL pe pe)(k:Kd):Lk qL (jC pe k) (jC pe k):=by
 cases k
 ·exact h
 ·exact(Lk.take _).bind λt u e=>Lk.ret (by simp only[e];exact qL.of .nil)
 ·exact(Lk.take _).bind λt u e=>Lk.ret (by simp only[e];exact qL.of .nil)
theorem FP{pe:jk Nd}(h:Lk qL pe pe)(ks:List Kd):∀b,Lk AL (jx pe b ks) (jx pe b ks):=by
 induction ks with
 |nil=>intro b;cases b<;>exact Lk.ret .nil
 |cons k ks ih =>
  intro b;cases b
  ·exact(Lk.take _).bind λ_ _ _=>(uN h k).bind λ_ _ hx=>(ih false).bind λ_ _ hl=>Lk.ret (.cons hx hl)
  ·exact(uN h k).bind λ_ _ hx=>(ih false).bind λ_ _ hl=>Lk.ret (.cons hx hl)
theorem Hc{pe:jk Nd}(h:Lk qL pe pe)(f:Nat):Lk AL (jY pe f) (jY pe f):=by
 induction f with
 |zero=>exact Lk.ret .nil
 |succ f ih=>exact Lk.fork _ ((Lk.take _).bind λ_ _ _=>h.bind λ_ _ hx=>ih.bind λ_ _ hl=>Lk.ret (.cons hx hl)) (Lk.ret .nil)
theorem FM{pe:jk Nd}(h:Lk qL pe pe)(op:List UInt8):Lk AL (qI pe op) (qI pe op):=
 (Lk.take _).bind λ_ _ _=>(FP h _ _).bind λ_ _ hl=>(Lk.ite _ (Hc h _) (Lk.ret .nil)).bind λ_ _ hm=>(Lk.take _).bind λ_ _ _=>Lk.ret (hl.append hm)
theorem dU(d:Nat):Lk qL (zC d) (zC d):=by
 induction d with
 |zero=>intro en en' ts us e x r hx;cases hx
 |succ d ih =>
  refine(Lk.take _).bind λt u e=>?_
  simp only[e];exact Lk.ite _ (Lk.ret (qL.of .nil)) ((FM ih _).bind λ_ _ hl=>Lk.ret (qL.of hl))
def RL(x y:Int×List Nd):Prop:=x.1=y.1∧AL x.2 y.2
theorem Hv(op:List UInt8):Lk RL (qV op) (qV op):=by
 unfold qV
 exact Lk.ite _ ((Lk.take _).bind λt u e=>Lk.ret ⟨by simp only[e],.nil⟩) (Lk.ite _ ((Lk.take _).bind λt u e=>Lk.ret ⟨rfl,.cons (by simp only[e];exact qL.of .nil) .nil⟩)
  (Lk.ite _ ((Lk.take _).bind λ_ _ _=>(dU 12).bind λ_ _ hx=>Lk.ret ⟨rfl,.cons hx .nil⟩) (Lk.fork _ ((Lk.take _).bind λ_ _ _=>Lk.ret ⟨rfl,.nil⟩) (Lk.ret ⟨rfl,.nil⟩))))
theorem Hl:Lk qL qi qi:=by
 refine(Lk.take _).bind λt u e=>(Lk.take _).bind λt' u' e'=>?_
 simp only[e,e'];exact(Hv _).bind λx y hx=>(Lk.take _).bind λ_ _ _=>Lk.ret (by rw[hx.1];exact qL.of hx.2)
theorem D1(f:Nat):Lk AL (qA f) (qA f):=by
 induction f with
 |zero=>exact Lk.ret .nil
 |succ f ih =>
  have hb:Lk AL (zt qi λn=>zt (qA f) λl=>qT (n::l)) (zt qi λn=>zt (qA f) λl=>qT (n::l)):=Hl.bind λ_ _ hx=>ih.bind λ_ _ hl=>Lk.ret (.cons hx hl)
  intro en en' ts us e x r hx;cases ts with
  |nil=>cases us with
   |nil=>cases hx;exact⟨[],[],rfl,.nil,rfl⟩
   |cons u us=>cases e
  |cons t ts=>cases us with
   |nil=>cases e
   |cons u us=>exact hb en en' (t::ts) (u::us) e x r hx
theorem uF{p:Tk→Bool}{en:Nat}{ts r:zo}{t:Tk×Nat}(h:zn p en ts= .ok (t,r)):ts=t::r:=by
 cases ts with
 |nil=>cases h
 |cons u us =>
  simp only[zn]at h
  split at h
  ·cases h;rfl
  ·cases h
theorem gQ(f:Nat):∀(en:Nat) (ts r:zo) (l:List Nd),qA f en ts= .ok (l,r)→ts.length<f→r= []:=by
 induction f with
 |zero=>intro en ts r l h hf;omega
 |succ f ih =>
  intro en ts r l h hf;cases ts with
  |nil=>cases h;rfl
  |cons t ts =>
   rw[Jh]at h;cases hs:qi en (t::ts)with
   |error e=>rw[hs]at h;cases h
   |ok x =>
    obtain⟨n,r1⟩:=x;rw[hs]at h;simp only at h;have h1:=Zj hs;cases hp:qA f en r1 with
    |error e=>rw[hp]at h;cases h
    |ok y =>
     obtain⟨l',r'⟩:=y;rw[hp]at h;cases h;exact ih en r1 r l' hp (by simp only[List.length_cons]at h1 hf;omega)
end
section
theorem Q0{p:UInt8→Bool}{u v:List UInt8}(h:zE p (u++v)=u.length):(∀c ∈ u,p c=true)∧(∀c,v.head?=some c→p c=false):=by
 induction u with
 |nil =>
  refine⟨by simp,λc hc=>?_⟩;cases v with
  |nil=>cases hc
  |cons d v =>
   simp only[List.head?_cons,Option.some.injEq]at hc;subst hc;simp only[List.nil_append,qR,List.length_nil]at h;cases hp:p d
   ·rfl
   ·rw[hp]at h;simp at h
 |cons d u ih =>
  simp only[List.cons_append,qR,List.length_cons]at h
  split at h
  ·rename_i hp
   obtain⟨h1,h2⟩:=ih (by omega);refine⟨λc hc=>?_,h2⟩;rcases List.mem_cons.1 hc with rfl|hc
   ·exact hp
   ·exact h1 c hc
  ·omega
theorem UE{p:UInt8→Bool}{u v:List UInt8}(h1:∀c ∈ u,p c=true)(h2:∀c,v.head?=some c→p c=false):zE p (u++v)=u.length:=by
 cases v with
 |nil =>
  rw[List.append_nil];clear h2
  induction u with
  |nil=>rfl
  |cons d u ih=>rw[qR,if_pos (h1 d (by simp)),ih (λc hc=>h1 c (by simp[hc]))];rfl
 |cons c v=>exact JF p u c v h1 (h2 c rfl)
theorem K9{v:List UInt8}(h:∀c,v.head?=some c→vn c=false):vf v=false:=by
 cases v with
 |nil=>rfl
 |cons c v=>simp[vf,h c rfl]
def zW{α:Type}(P:jk α):Prop:=∀en ts c k,P en ts= .error (c,k)→c≠0
theorem zW.ret{α:Type}(x:α):zW (qT x):=λen ts c k h=>by cases h
theorem zW.bind{α β:Type}{P:jk α}{f:α→jk β}(hP:zW P)(hf:∀x,zW (f x)):zW (zt P f):=by
 intro en ts c k h;unfold zt at h;cases hp:P en ts with
 |error e=>rw[hp]at h;cases h;exact hP en ts c k hp
 |ok y=>obtain⟨x,r⟩:=y;rw[hp]at h;exact hf x en r c k h
theorem zW.take(p:Tk→Bool):zW (zn p):=by
 intro en ts c k h;cases ts with
 |nil=>cases h;decide
 |cons t r=>simp only[zn]at h;split at h<;>cases h;decide
theorem zW.fork{α:Type}(p:Tk→Bool){P Q:jk α}(hP:zW P)(hQ:zW Q):zW (QS p P Q):=by
 intro en ts c k h;unfold QS at h
 split at h
 ·exact hP en ts c k h
 ·exact hQ en ts c k h
theorem zW.ite{α:Type}{P Q:jk α}(c:Prop)[Decidable c](hP:zW P)(hQ:zW Q):zW (if c then P else Q):=by
 split
 ·exact hP
 ·exact hQ
theorem Vg{pe:jk Nd}(h:zW pe)(k:Kd):zW (jC pe k):=by
 cases k
 ·exact h
 ·exact(zW.take _).bind λ_=>zW.ret _
 ·exact(zW.take _).bind λ_=>zW.ret _
theorem XW{pe:jk Nd}(h:zW pe)(ks:List Kd):∀b,zW (jx pe b ks):=by
 induction ks with
 |nil=>intro b;cases b<;>exact zW.ret _
 |cons k ks ih =>
  intro b;cases b
  ·exact(zW.take _).bind λ_=>(Vg h k).bind λ_=>(ih false).bind λ_=>zW.ret _
  ·exact(Vg h k).bind λ_=>(ih false).bind λ_=>zW.ret _
theorem Ut{pe:jk Nd}(h:zW pe)(f:Nat):zW (jY pe f):=by
 induction f with
 |zero=>exact zW.ret _
 |succ f ih=>exact zW.fork _ ((zW.take _).bind λ_=>h.bind λ_=>ih.bind λ_=>zW.ret _) (zW.ret _)
theorem kz(d:Nat):zW (zC d):=by
 induction d with
 |zero=>intro en ts c k h;cases h;decide
 |succ d ih=>exact(zW.take _).bind λ_=>zW.ite _ (zW.ret _) (((zW.take _).bind λ_=>(XW ih _ _).bind λ_=>(zW.ite _ (Ut ih _) (zW.ret _)).bind λ_=>(zW.take _).bind λ_=>zW.ret _).bind λ_=>zW.ret _)
theorem Uo(op:List UInt8):zW (qV op):=by
 unfold qV
 exact zW.ite _ ((zW.take _).bind λ_=>zW.ret _) (zW.ite _ ((zW.take _).bind λ_=>zW.ret _)
  (zW.ite _ ((zW.take _).bind λ_=>(kz 12).bind λ_=>zW.ret _) (zW.fork _ ((zW.take _).bind λ_=>zW.ret _) (zW.ret _))))
theorem ul(f:Nat):zW (qA f):=by
 induction f with
 |zero=>exact zW.ret _
 |succ f ih =>
  have hb:zW (zt qi λn=>zt (qA f) λl=>qT (n::l)):=((zW.take _).bind λ_=>(zW.take _).bind λ_=>(Uo _).bind λ_=>(zW.take _).bind λ_=>zW.ret _).bind λ_=>ih.bind λ_=>zW.ret _
  intro en ts c k h;cases ts with
  |nil=>cases h
  |cons t r=>exact hb en (t::r) c k h
theorem XN{x:List UInt8}{c k:Nat}(h:jn x= .error (c,k)):k≤x.length∧c≠0:=by
 unfold jn at h;cases hS:j9 x with
 |error e=>obtain⟨e,o⟩:=e;rw[hS]at h;cases h;have:=X3 hS;exact⟨this.2,this.1⟩
 |ok ts =>
  rw[hS]at h;simp only at h;cases hp:qA 501 x.length ts with
  |ok y=>rw[hp]at h;cases h
  |error e =>
   obtain⟨e,o⟩:=e;rw[hp]at h;cases h;obtain⟨q,r,e1,e2,_⟩:=(Kb 501 x.length ts).2 c k hp;refine⟨?_,ul 501 x.length ts c k hp⟩;rw[e2];cases r with
   |nil=>exact Nat.le_refl _
   |cons u r' =>
    have hst:=Ki hS
    have hall:∀(lo:Nat) (zs:zo),Xy x lo zs→∀z ∈ zs,z.2<x.length:=by
     intro lo zs
     induction zs generalizing lo with
     |nil=>intro _ z hz;cases hz
     |cons y zs ih2 =>
      obtain⟨y1,y2⟩:=y;rintro⟨_,h2,n',_,h4⟩ z hz;rcases List.mem_cons.1 hz with rfl|hz
      ·exact h2
      ·exact ih2 _ h4 z hz
    have:=hall _ _ hst u (by rw[e1];simp);show u.2≤_;omega
end
section
theorem ZT{x:List UInt8}{n:Nd}(h:jn x= .ok n):∃ts l,j9 x= .ok ts∧qA 501 x.length ts= .ok (l,[])∧n= .mk ji [] 0 0 l:=by
 unfold jn at h;cases hS:j9 x with
 |error e=>rw[hS]at h;cases h
 |ok ts =>
  rw[hS]at h;simp only at h;cases hp:qA 501 x.length ts with
  |error e=>rw[hp]at h;cases h
  |ok y =>
   obtain⟨l,r⟩:=y;rw[hp]at h;cases h;have hl:=(vQ hS).1;have hr:=gQ 501 _ _ _ _ hp (by omega);subst hr;exact⟨ts,l,rfl,hp,rfl⟩
theorem FH{x:List UInt8}{ts:zo}{l:List Nd}(hS:j9 x= .ok ts)(hp:qA 501 x.length ts= .ok (l,[])):jn x= .ok (.mk ji [] 0 0 l):=by
 unfold jn;rw[hS];simp only[hp]
end
section
def uY(ts:zo):Prop:=∀t ∈ ts,xw t.1
def Gp{α:Type}(R:α→Prop)(P:jk α):Prop:=∀en ts,uY ts→∀x r,P en ts= .ok (x,r)→R x∧uY r
theorem Gp.ret{α:Type}{R:α→Prop}{x:α}(h:R x):Gp R (qT x):=λen ts hg y r hy=>by cases hy;exact⟨h,hg⟩
theorem Gp.bind{α β:Type}{R:α→Prop}{S:β→Prop}{P:jk α}{f:α→jk β}(h:Gp R P)(hf:∀x,R x→Gp S (f x)):Gp S (zt P f):=by
 intro en ts hg y r hy;unfold zt at hy;cases hp:P en ts with
 |error e=>rw[hp]at hy;cases hy
 |ok z =>
  obtain⟨z,s⟩:=z;rw[hp]at hy;obtain⟨h1,h2⟩:=h en ts hg z s hp;exact hf z h1 en s h2 y r hy
theorem Gp.take(p:Tk→Bool):Gp (λt:Tk×Nat=>xw t.1∧p t.1=true) (zn p):=by
 intro en ts hg y r hy;have h1:=uF hy;have h2:=Vt hy;subst h1;exact⟨⟨hg _ (by simp),h2⟩,λt ht=>hg t (by simp[ht])⟩
theorem Gp.fork{α:Type}{R:α→Prop}(p:Tk→Bool){P Q:jk α}(h:Gp R P)(h':Gp R Q):Gp R (QS p P Q):=by
 intro en ts hg y r hy;unfold QS at hy
 split at hy
 ·exact h en ts hg y r hy
 ·exact h' en ts hg y r hy
theorem Gp.ite{α:Type}{R:α→Prop}(c:Prop)[Decidable c]{P Q:jk α}(h:Gp R P)(h':Gp R Q):Gp R (if c then P else Q):=by
 split
 ·exact h
 ·exact h'
theorem xw.short{t:Tk}(h:xw t):t.s.length≤1000:=by
 have hle:=h.le;by_cases h0:t.kind=0
 ·have:=(h.word h0).2.2;omega
 ·by_cases h1:t.kind=1
  ·rw[(h.num h1).1];simp
  ·by_cases h2:t.kind=2
   ·have:=(h.hex h2).2.2;omega
   ·obtain⟨c,e,_⟩:=h.sign (by omega)
    rw[e];simp
def yk(l:List Nd):Prop:=∀x ∈ l,VT x
theorem yk.nil:yk []:=λx h=>by cases h
theorem yk.cons{x:Nd}{l:List Nd}(h:VT x)(hl:yk l):yk (x::l):=λy hy=>by
 rcases List.mem_cons.1 hy with rfl|hy
 ·exact h
 ·exact hl y hy
theorem yk.append{l m:List Nd}(h:yk l)(hm:yk m):yk (l++m):=λy hy=>(List.mem_append.1 hy).elim (h y) (hm y)
theorem X8{pe:jk Nd}(h:Gp VT pe)(k:Kd):Gp VT (jC pe k):=by
 cases k
 ·exact h
 ·exact(Gp.take _).bind λt ht=>Gp.ret (.mk _ _ _ _ _ (by decide) (by decide) yk.nil)
 ·exact(Gp.take _).bind λt ht=>Gp.ret (.mk _ _ _ _ _ (by decide) ht.1.short yk.nil)
theorem G8{pe:jk Nd}(h:Gp VT pe)(ks:List Kd):∀b,Gp yk (jx pe b ks):=by
 induction ks with
 |nil=>intro b;cases b<;>exact Gp.ret yk.nil
 |cons k ks ih =>
  intro b;cases b
  ·exact(Gp.take _).bind λ_ _=>(X8 h k).bind λ_ hx=>(ih false).bind λ_ hl=>Gp.ret (hl.cons hx)
  ·exact(X8 h k).bind λ_ hx=>(ih false).bind λ_ hl=>Gp.ret (hl.cons hx)
theorem FC{pe:jk Nd}(h:Gp VT pe)(f:Nat):Gp yk (jY pe f):=by
 induction f with
 |zero=>exact Gp.ret yk.nil
 |succ f ih=>exact Gp.fork _ ((Gp.take _).bind λ_ _=>h.bind λ_ hx=>ih.bind λ_ hl=>Gp.ret (hl.cons hx)) (Gp.ret yk.nil)
theorem FJ(d:Nat):Gp VT (zC d):=by
 induction d with
 |zero=>intro en ts hg x r hx;cases hx
 |succ d ih =>
  exact(Gp.take _).bind λt ht=>Gp.ite _ (Gp.ret (.mk _ _ _ _ _ (by decide) ht.1.short yk.nil))
   (((Gp.take _).bind λ_ _=>(G8 ih _ _).bind λ_ hl=>(Gp.ite _ (FC ih _) (Gp.ret yk.nil)).bind λ_ hm=>(Gp.take _).bind λ_ _=>Gp.ret (hl.append hm)).bind λ_ hl=>Gp.ret (.mk _ _ _ _ _ ht.1.short (by decide) hl))
theorem fc:Gp VT qi:=by
 refine(Gp.take _).bind λt ht=>(Gp.take _).bind λu hu=>?_
 have hr:Gp (λx:Int×List Nd=>yk x.2) (qV t.1.s):=by
  unfold qV
  exact Gp.ite _ ((Gp.take _).bind λ_ _=>Gp.ret yk.nil) (Gp.ite _ ((Gp.take _).bind λv hv=>Gp.ret (yk.nil.cons (.mk _ _ _ _ _ (by decide) hv.1.short yk.nil)))
   (Gp.ite _ ((Gp.take _).bind λ_ _=>(FJ 12).bind λ_ hx=>Gp.ret (yk.nil.cons hx)) (Gp.fork _ ((Gp.take _).bind λ_ _=>Gp.ret yk.nil) (Gp.ret yk.nil))))
 exact hr.bind λx hx=>(Gp.take _).bind λ_ _=>Gp.ret (.mk _ _ _ _ _ ht.1.short hu.1.short hx)
theorem Dl(f:Nat):Gp yk (qA f):=by
 induction f with
 |zero=>exact Gp.ret yk.nil
 |succ f ih =>
  have hb:Gp yk (zt qi λn=>zt (qA f) λl=>qT (n::l)):=fc.bind λ_ hx=>ih.bind λ_ hl=>Gp.ret (hl.cons hx)
  intro en ts hg x r hx;cases ts with
  |nil=>cases hx;exact⟨yk.nil,hg⟩
  |cons t ts=>exact hb en (t::ts) hg x r hx
theorem xb{x:List UInt8}{n:Nd}(h:jn x= .ok n):VT n:=by
 obtain⟨ts,l,hS,hp,rfl⟩:=ZT h;exact .mk _ _ _ _ _ (by decide) (by decide) (Dl 501 _ ts (vQ hS).2 l [] hp).1
theorem kh{x:List UInt8}{n:Nd}(h:jn x= .ok n):n.l.length≤500:=by
 obtain⟨ts,l,hS,hp,rfl⟩:=ZT h;have hl:=(vQ hS).1
 have :∀(f en:Nat) (ts:zo) (l:List Nd) (r:zo),qA f en ts= .ok (l,r)→l.length≤ts.length:=by
  intro f
  induction f with
  |zero=>intro en ts l r h;cases h;simp
  |succ f ih =>
   intro en ts l r h;cases ts with
   |nil=>cases h;simp
   |cons t ts =>
    rw[Jh]at h;cases hs:qi en (t::ts)with
    |error e=>rw[hs]at h;cases h
    |ok y =>
     obtain⟨n,r1⟩:=y;rw[hs]at h;have h1:=Zj hs;simp only at h;cases hp:qA f en r1 with
     |error e=>rw[hp]at h;cases h
     |ok z =>
      obtain⟨l',r'⟩:=z;rw[hp]at h;cases h;have:=ih _ _ _ _ hp;simp only[List.length_cons,List.singleton_append]at *;omega
 have:=this _ _ _ _ _ hp;show l.length≤500;omega
end
section
open Go.ChangeShapes Go.WideShapes Go.ChangeAt Go.RowKit
def lvT:List UInt8:= [100,101,118,105,99,101,32,97,32,49,48,59,32,100,101,118,105,99,101,32,98,32,49,48,59,32,106,111,117,114,110,97,108,32,106,32,50,53,54,59,32,118,111,108,117,109,101,32,118,32,61,32,109,105,114,114,111,114,40,97,44,32,108,105,110,101,97,114,40,98,44,32,48,44,32,49,48,41,41,59,32,101,120,112,111,114,116,32,118,59]
def lvE:Nd:= .mk jq [] 0 52 [.mk j8 [97] 0 59 [],.mk jh [] 0 62 [.mk j8 [98] 0 69 [],.mk vk [] 0 72 [],.mk vk [] 10 75 []]]
def dX:Nd:= .mk ji [] 0 0 [.mk zc [97] 10 0 [],.mk zc [98] 10 13 [],.mk zg [106] 256 26 [],.mk zp [118] 0 41 [lvE],.mk zv [118] 0 81 []]
def lvS:VK:=⟨[10,10,256],2,[⟨1,10,[],0,0,0,[],[]⟩,⟨1,10,[],1,0,0,[],[]⟩,⟨2,10,[1],0,0,0,[],[]⟩,⟨4,10,[0,2],0,0,0,[],[]⟩],3,false⟩
theorem Vf:jn lvT= .ok dX:=by kernel_rfl
theorem FL:xP dX=true:=by kernel_rfl
theorem zaS:Kz dX= .ok lvS:=by kernel_rfl
theorem Fo:jK dX= .ok lvS:=by unfold jK;rw[if_pos FL,zaS]
def yZ(l:List Nd):Prop:=∀x ∈ l,JS x
theorem yZ.nil:yZ []:=λx h=>by cases h
theorem yZ.cons{x:Nd}{l:List Nd}(h:JS x)(hl:yZ l):yZ (x::l):=λy hy=>by
 rcases List.mem_cons.1 hy with rfl|hy
 ·exact h
 ·exact hl y hy
theorem yZ.append{l m:List Nd}(h:yZ l)(hm:yZ m):yZ (l++m):=λy hy=>(List.mem_append.1 hy).elim (h y) (hm y)
theorem QF(op s:List UInt8)(n a:Int):JS (.mk op s n a []):= .mk _ (by simp[Nd.l]) (λx h=>by cases h)
def dd(k:Nat)(l:List Nd):Prop:=yZ l∧l.length≤k
theorem Ku{pe:jk Nd}(h:Gp JS pe)(k:Kd):Gp JS (jC pe k):=by
 cases k
 ·exact h
 ·exact(Gp.take _).bind λt ht=>Gp.ret (QF _ _ _ _)
 ·exact(Gp.take _).bind λt ht=>Gp.ret (QF _ _ _ _)
theorem Gy{pe:jk Nd}(h:Gp JS pe)(ks:List Kd):∀b,Gp (dd ks.length) (jx pe b ks):=by
 induction ks with
 |nil=>intro b;cases b<;>exact Gp.ret ⟨yZ.nil,Nat.le_refl _⟩
 |cons k ks ih =>
  intro b;cases b
  ·exact(Gp.take _).bind λ_ _=>(Ku h k).bind λ_ hx=>(ih false).bind λ_ hl=>Gp.ret ⟨hl.1.cons hx,by have:=hl.2;simp;omega⟩
  ·exact(Ku h k).bind λ_ hx=>(ih false).bind λ_ hl=>Gp.ret ⟨hl.1.cons hx,by have:=hl.2;simp;omega⟩
theorem Dz{pe:jk Nd}(h:Gp JS pe)(f:Nat):Gp (dd f) (jY pe f):=by
 induction f with
 |zero=>exact Gp.ret ⟨yZ.nil,Nat.le_refl _⟩
 |succ f ih=>exact Gp.fork _ ((Gp.take _).bind λ_ _=>h.bind λ_ hx=>ih.bind λ_ hl=>Gp.ret ⟨hl.1.cons hx,by have:=hl.2;simp;omega⟩) (Gp.ret ⟨yZ.nil,Nat.zero_le _⟩)
theorem Fl(d:Nat):Gp JS (zC d):=by
 induction d with
 |zero=>intro en ts hg x r hx;cases hx
 |succ d ih =>
  exact(Gp.take _).bind λt ht=>Gp.ite _ (Gp.ret (QF _ _ _ _))
   (((Gp.take _).bind λ_ _=>(Gy ih _ _).bind λ_ hl=>(Gp.ite (R:=dd 501) _ (Dz ih 501) (Gp.ret ⟨yZ.nil,Nat.zero_le _⟩)).bind λ_ hm=>(Gp.take _).bind λ_ _=>Gp.ret (R:=λl=>yZ l∧l.length≤600) ⟨hl.1.append hm.1,by have h1:=hl.2;have h2:=hm.2;have h3:=Zk t.1.s;rw[List.length_append];omega⟩).bind λ_ hl=>Gp.ret (.mk _ (by have:=hl.2;show _≤80000;simp only[Nd.l];omega) hl.1))
theorem fq:Gp JS qi:=by
 refine(Gp.take _).bind λt ht=>(Gp.take _).bind λu hu=>?_
 have hr:Gp (λx:Int×List Nd=>dd 1 x.2) (qV t.1.s):=by
  unfold qV
  exact Gp.ite _ ((Gp.take _).bind λ_ _=>Gp.ret ⟨yZ.nil,Nat.zero_le _⟩) (Gp.ite _ ((Gp.take _).bind λv hv=>Gp.ret ⟨yZ.nil.cons (QF _ _ _ _),Nat.le_refl _⟩)
   (Gp.ite _ ((Gp.take _).bind λ_ _=>(Fl 12).bind λ_ hx=>Gp.ret ⟨yZ.nil.cons hx,Nat.le_refl _⟩) (Gp.fork _ ((Gp.take _).bind λ_ _=>Gp.ret ⟨yZ.nil,Nat.zero_le _⟩) (Gp.ret ⟨yZ.nil,Nat.zero_le _⟩))))
 exact hr.bind λx hx=>(Gp.take _).bind λ_ _=>Gp.ret (.mk _ (by have:=hx.2;simp only[Nd.l];omega) hx.1)
theorem Dd(f:Nat):Gp yZ (qA f):=by
 induction f with
 |zero=>exact Gp.ret yZ.nil
 |succ f ih =>
  have hb:Gp yZ (zt qi λn=>zt (qA f) λl=>qT (n::l)):=fq.bind λ_ hx=>ih.bind λ_ hl=>Gp.ret (hl.cons hx)
  intro en ts hg x r hx;cases ts with
  |nil=>cases hx;exact⟨yZ.nil,hg⟩
  |cons t ts=>exact hb en (t::ts) hg x r hx
theorem y8{x:List UInt8}{n:Nd}(h:jn x= .ok n):JS n:=by
 have hs:=kh h;obtain⟨ts,l,hS,hp,rfl⟩:=ZT h;exact .mk _ (by omega) (Dd 501 _ ts (vQ hS).2 l [] hp).1
theorem jB.rdn{w:World}{P:Nat→Prop}{n:Nd}{A:Option Addr}{C:Nat}(h:jB w P n.l (.slice A n.l.length C))(hs:VT n):jZ w n A C:=
 ⟨h.rd hs.l,by have:=hs.s;unfold maxLen;omega,by have:=hs.op;unfold maxLen;omega⟩
theorem xm.pts{w:World}{B:Nat}{s:VK}{vd vp:Value}(h:xm w B s vd vp)(hn:0<s.parts.length):∃g off C,vp= .slice (some ⟨g,off,none⟩) s.parts.length C∧s.parts.length≤C∧C≤maxLen∧g<w.heap.size∧B≤g∧yP w w.heap.size (some ⟨g,off,none⟩) s.parts:=by
 obtain⟨us,e1,hp,hin⟩:=h.prts;obtain⟨g,C,e,h1,h2,h3,h3',h4⟩:=Qo hp hn;refine⟨g,0,C,e,h1,h2,h3,h3',λi hi=>⟨g,0,us[i]'(by omega),rfl,h3,h3,λj hj=>?_,(hin i hi (by omega)).keep (Nat.le_refl _) (λk hk _=>⟨rfl,hk⟩)⟩⟩;rw[Nat.zero_add,h4 _ (by omega),JH _ us e1 i hi j hj]
theorem yP.two{w:World}{B g off:Nat}{ps:List Pt}(h:yP w B (some ⟨g,off,none⟩) ps){i:Nat}(hi:i<ps.length):w.cell? ⟨g,off+i*8,none⟩=some (.int .i64 (ps[i].kind:Nat))∧w.cell? ⟨g,off+i*8+1,none⟩=some (.int .i64 (ps[i].size:Nat)):=by
 obtain⟨g',off',u,e,_,_,hc,_⟩:=h i hi;cases e;exact⟨hc 0 (by decide),hc 1 (by decide)⟩
theorem zam:VT dX:=xb Vf
theorem zaR:JS dX:=y8 Vf
theorem zbl(W:World)(A:Option Addr)(C:Nat)(h:jZ W dX A C):Calls Tryz.prog 11 #[.agg #[.string ⟨#[102,105,108,101]⟩,.string ⟨#[]⟩,.int .i64 0,.int .i64 0,.slice A 5 C]] W λe w'=>∃Ad Cd g o2 o3 off Cp,e= .returned (.tuple #[.agg #[.slice Ad 3 Cd,.int .i64 2,.slice (some ⟨g,off,none⟩) 4 Cp,.int .i64 3,.bool false],.int .i64 0,.int .i64 (-1)])∧Below W.heap.size W w'∧g<w'.heap.size∧Hid (o2=off+2*8)∧Hid (o3=off+3*8)∧w'.cell? ⟨g,o3+1,none⟩=some (.int .i64 10)∧w'.cell? ⟨g,o2,none⟩=some (.int .i64 2):=by
 have:=QM dX A C W h zaR;rw[Fo]at this;refine this.mono ?_;rintro e w' ⟨hb,vd,vp,rfl,hs⟩;obtain⟨Ad,Cd,rfl⟩:=Zi hs.devs;obtain⟨g,off,Cp,rfl,_,_,hg,_,hP⟩:=hs.pts (by decide);exact⟨Ad,Cd,g,off+2*8,off+3*8,off,Cp,rfl,hb,hg,rfl,rfl,(hP.two (i:=3) (by decide)).2,(hP.two (i:=2) (by decide)).1⟩
theorem ZZ(w:World):Calls Tryz.prog 14 #[] w λe w'=>e= .returned (.bool true)∧Below w.heap.size w w':=by
 have hpa:Calls Tryz.prog 9 #[.string ⟨#[100,101,118,105,99,101,32,97,32,49,48,59,32,100,101,118,105,99,101,32,98,32,49,48,59,32,106,111,117,114,110,97,108,32,106,32,50,53,54,59,32,118,111,108,117,109,101,32,118,32,61,32,109,105,114,114,111,114,40,97,44,32,108,105,110,101,97,114,40,98,44,32,48,44,32,49,48,41,41,59,32,101,120,112,111,114,116,32,118,59]⟩] w λe w'=>∃A C,e= .returned (.tuple #[.agg #[.string ⟨#[102,105,108,101]⟩,.string ⟨#[]⟩,.int .i64 0,.int .i64 0,.slice A 5 C],.int .i64 0,.int .i64 (-1)])∧jZ w' dX A C∧Below w.heap.size w w':=by
  have:=Fc lvT w (by decide);rw[Vf]at this;refine this.mono ?_;rintro e w' ⟨hb,A,C,rfl,hn⟩;exact⟨A,C,rfl,hn.rdn zam,hb⟩
 go_enter Tryz.func14,Tryz.ntmps14
 go_wp2_with (first
  |((go_at_call 9)
    refine hpa.mono ?_;(rintro e w1 ⟨A,C,rfl,hr1,hb1⟩))
  |((go_at_call 11)
    refine(zbl _ A C (hr1.grow (zd w1 _))).mono ?_;(rintro e w2 ⟨Ad,Cd,g,o2,o3,off,Cp,rfl,hb2,hg,HO2,HO3,d3,d2⟩))
  |((refine zf 43 rfl ?_)
    (refine zb (some 43) (.pointer (some ⟨g,o3,none⟩)) rfl (by rfl) (by rw[HO3.out];exact qn _ _ rfl g off 3 4 Cp rfl rfl (by decide) _) ?_))
  |((refine zf 51 rfl ?_)
    (refine zb (some 51) (.pointer (some ⟨g,o2,none⟩)) rfl (by rfl) (by rw[HO2.out];exact qn _ _ rfl g off 2 4 Cp rfl rfl (by decide) _) ?_)))
 go_ret
 have s1:=hb1.size;have s2:=hb2.size;simp at s2;exact⟨rfl,((hb1.alloc hb1.size _).trans (hb2.mono (by simp;omega))).alloc (by omega) _⟩
end
section
theorem J4{α:Type}(P:List R3→Prop){g:List R3→Nat→α→List R3}(hg:∀o k a,P o→P (g o k a))(a:α)(l:List Nat):∀o,P o→P (l.foldl (λo k=>g o k a) o):=by
 induction l with
 |nil=>intro o h;exact h
 |cons k l ih=>intro o h;exact ih _ (hg _ _ _ h)
theorem V4(P:List R3→Prop){ps:List Pt}{g:List R3→Nat→Int→Int→List R3}(hg:∀o k f c,P o→P (g o k f c)){out:List R3}{p:Pt}{f c:Int}(ho:P out)(h1:p.kind=1→P (out++ [⟨p.dev,f,c⟩])):P (yj ps g out p f c):=by
 unfold yj;by_cases e1:p.kind=1
 ·rw[if_pos e1];exact h1 e1
 ·rw[if_neg e1]
  by_cases e2:p.kind=2
  ·rw[if_pos e2]
   exact J4 P (g:=λo k (a:Int×Int)=>g o k a.1 a.2) (λo k a h=>hg _ _ _ _ h) (f+p.first,c) _ _ ho
  ·rw[if_neg e2]
   by_cases e3:p.kind=4∨p.kind=6
   ·rw[if_pos e3]
    exact J4 P (g:=λo k (a:Int×Int)=>g o k a.1 a.2) (λo k a h=>hg _ _ _ _ h) (f,c) _ _ ho
   ·rw[if_neg e3]
    by_cases e4:p.kind=3
    ·rw[if_pos e4]
     have :∀(l:List Nat) (x:List R3×Int),P x.1→P (l.foldl (λ(x:List R3×Int) k=>(g x.1 k (max (f-x.2) 0) (min (f+c-x.2) (sz ps k)-max (f-x.2) 0),x.2+sz ps k)) x).1:=by
      intro l
      induction l with
      |nil=>intro x h;exact h
      |cons k l ih=>intro x h;exact ih _ (hg _ _ _ _ h)
     exact this _ _ ho
    ·rw[if_neg e4]
     by_cases e5:p.kind=5
     ·rw[if_pos e5];exact hg _ _ _ _ (hg _ _ _ _ ho)
     ·rw[if_neg e5]
      by_cases e6:p.kind=7∨p.kind=8
      ·rw[if_pos e6];exact hg _ _ _ _ ho
      ·rw[if_neg e6];exact ho
def Gi(ps:List Pt)(r:R3):Prop:=∃i,i<ps.length∧(zK ps i).kind=1∧r.d=((zK ps i).dev:Nat)∧0≤r.f∧0<r.c∧r.f+r.c≤(sz ps i:Nat)
theorem fA{ps:List Pt}(d:Nat):∀out k f c,(∀r ∈ out,Gi ps r)→∀r ∈ vS ps d out k f c,Gi ps r:=by
 induction d with
 |zero=>intro out k f c h;exact h
 |succ d ih =>
  intro out k f c h;by_cases hno:256<out.length∨jJ ps k f c=false
  ·rw[YL hno];exact h
  ·have h1:¬256<out.length:=λe=>hno (.inl e)
   have h2:jJ ps k f c=true:=by
    cases hb:jJ ps k f c
    ·exact absurd (.inr hb) hno
    ·rfl
   rw[Y3 h1 h2];refine V4 (λo=>∀r ∈ o,Gi ps r) ih h (λe r hr=>?_);rcases List.mem_append.1 hr with q|q
   ·exact h r q
   ·rw[List.mem_singleton.1 q]
    obtain⟨a,b,c',d'⟩:=xj h2;exact⟨k,a,e,rfl,b,c',d'⟩
theorem GN{ps:List Pt}{p f c:Int}:∀r ∈ ZA ps p f c,Gi ps r:=by
 unfold ZA
 split
 ·intro r h;cases h
 ·exact fA _ _ _ _ _ (λr h=>by cases h)
theorem YV{ps:List Pt}(d:Nat):∀out k f c,out.length≤(vS ps d out k f c).length:=by
 induction d with
 |zero=>intro out k f c;exact Nat.le_refl _
 |succ d ih =>
  intro out k f c;by_cases hno:256<out.length∨jJ ps k f c=false
  ·rw[YL hno];exact Nat.le_refl _
  ·have h1:¬256<out.length:=λe=>hno (.inl e)
   have h2:jJ ps k f c=true:=by
    cases hb:jJ ps k f c
    ·exact absurd (.inr hb) hno
    ·rfl
   rw[Y3 h1 h2];refine V4 (λo=>out.length≤o.length) (λo k f c h=>Nat.le_trans h (ih _ _ _ _)) (Nat.le_refl _) (λ_=>by simp)
theorem ua{ps:List Pt}{k:Nat}{f c:Int}(h1:k<ps.length)(h2:0≤f)(h3:0<c)(h4:f+c≤(sz ps k:Nat)):jJ ps k f c=true:=by
 unfold jJ;rw[decide_eq_true_eq,Int.toNat_natCast];omega
theorem fX{ps:List Pt}{g:List R3→Nat→Int→Int→List R3}{f c:Int}(hc:0<c)(hm:∀o k f c,o.length≤(g o k f c).length)(hn:∀(o:List R3) (k:Nat) (f c:Int),jJ ps k f c=false→g o k f c=o)(l:List Nat)(hg:∀o:List R3,o.length≤256→∀k ∈ l,∀f c,jJ ps k f c=true→o.length<(g o k f c).length)(hl:∀k ∈ l,k<ps.length):∀(o:List R3) (off:Int),o.length≤256→off≤f→f<off+((l.map (sz ps)).sum:Nat)→o.length<(l.foldl (λ(x:List R3×Int) k=>(g x.1 k (max (f-x.2) 0) (min (f+c-x.2) (sz ps k)-max (f-x.2) 0),x.2+sz ps k)) (o,off)).1.length:=by
 have mono:∀(l:List Nat) (x:List R3×Int),x.1.length≤(l.foldl (λ(x:List R3×Int) k=>(g x.1 k (max (f-x.2) 0) (min (f+c-x.2) (sz ps k)-max (f-x.2) 0),x.2+sz ps k)) x).1.length:=by
  intro l
  induction l with
  |nil=>intro x;exact Nat.le_refl _
  |cons k l ih=>intro x;rw[List.foldl_cons];exact Nat.le_trans (hm x.1 k _ _) (ih (_,_))
 induction l with
 |nil=>intro o off h1 h2 h3;simp at h3;omega
 |cons k l ih =>
  intro o off h1 h2 h3;rw[List.foldl_cons];simp only;by_cases hk:f<off+sz ps k
  ·have hh:jJ ps k (max (f-off) 0) (min (f+c-off) (sz ps k)-max (f-off) 0)=true:=ua (hl k (by simp)) (by omega) (by omega) (by omega)
   exact Nat.lt_of_lt_of_le (hg o h1 k (by simp) _ _ hh) (mono l (_,_))
  ·have hh:jJ ps k (max (f-off) 0) (min (f+c-off) (sz ps k)-max (f-off) 0)=false:=by
    unfold jJ;rw[decide_eq_false_iff_not,Int.toNat_natCast];omega
   rw[hn _ _ _ _ hh];refine ih (λo ho k hk=>hg o ho k (by simp[hk])) (λk hk=>hl k (by simp[hk])) o _ h1 (by omega) ?_;simp only[List.map_cons,List.sum_cons]at h3;omega
def De(ps:List Pt):Prop:=∀i (h:i<ps.length),ps[i].kind=1∨Da (ps.take i) ps[i]
theorem FT{ps:List Pt}(hb:De ps)(d:Nat):∀k,k<d→∀out f c,out.length≤256→jJ ps k f c=true→out.length<(vS ps d out k f c).length:=by
 induction d with
 |zero=>intro k h;omega
 |succ d ih =>
  intro k hkd out f c ho hh;rw[Y3 (by omega) hh];obtain⟨hk,hf,hc,hs⟩:=xj hh;have hs':f+c≤((zK ps k).size:Nat):=hs;have hbk:=hb k hk;have hp:=vc hk;rw[←hp]at hbk;generalize zK ps k=p at *;unfold yj;rcases hbk with e1|hbk
  ·rw[if_pos e1];simp
  ·have hkd2:∀j ∈ p.kids,j<d∧yW ps j:=λj hj=>by
    have:=Y0 (hbk.kids j hj);exact⟨by omega,this.2⟩
   have hsz:∀j ∈ p.kids,sz (ps.take k) j=sz ps j:=λj hj=>by
    have h1:=(hbk.kids j hj).1;have:=Xt (ps.take k) (ps.drop k) h1;rw[List.take_append_drop]at this;exact this.symm
   have h0:p.kids.getD 0 0 ∈ p.kids:=ZR (by have:=hbk.some';cases hq:p.kids;exact absurd hq this;simp)
   obtain⟨k0,r,hkr⟩:∃k0 r,p.kids=k0::r:=by
    cases hq:p.kids with
    |nil=>exact absurd hq hbk.some'
    |cons a b=>exact⟨a,b,rfl⟩
   have hk0:p.kids.getD 0 0=k0:=by rw[hkr];rfl
   have hd0:=hkd2 _ h0;rw[hk0]at hd0;have hz0:=hsz _ h0;rw[hk0]at hz0;have hgr:∀f' c':Int,0≤f'→0<c'→f'+c'≤(sz ps k0:Nat)→out.length<(vS ps d out k0 f' c').length:=λf' c' a1 a2 a3=>ih k0 hd0.1 out f' c' ho (ua hd0.2.1 a1 a2 a3)
   have hfold:∀(l:List Nat) (o:List R3) (f' c':Int),o.length≤(l.foldl (λo k=>vS ps d o k f' c') o).length:=λl=>by
    induction l with
    |nil=>intro o f' c';exact Nat.le_refl _
    |cons a l ihl=>intro o f' c';exact Nat.le_trans (YV d _ _ _ _) (ihl _ _ _)
   have hkind:=hbk.kind;rw[if_neg (by omega)];by_cases e2:p.kind=2
   ·rw[if_pos e2,hkr,List.foldl_cons]
    have hlin:=hbk.lin e2;rw[hk0,hz0]at hlin;exact Nat.lt_of_lt_of_le (hgr _ _ (by omega) hc (by omega)) (hfold _ _ _ _)
   ·rw[if_neg e2]
    by_cases e3:p.kind=4∨p.kind=6
    ·rw[if_pos e3,hkr,List.foldl_cons]
     have hs0:sz ps k0=p.size:=by
      rcases e3 with e|e
      ·have:=hbk.mir e k0 (by rw[hkr];simp)
       rw[hz0]at this;exact this
      ·have:=hbk.cry e
       rw[hk0,hz0]at this;exact this
     exact Nat.lt_of_lt_of_le (hgr _ _ hf hc (by omega)) (hfold _ _ _ _)
    ·rw[if_neg e3]
     by_cases e4:p.kind=3
     ·rw[if_pos e4]
      have hcat:=hbk.cat e4;have hmap:p.kids.map (sz (ps.take k))=p.kids.map (sz ps):=List.map_congr_left hsz;rw[hmap]at hcat;refine fX hc (λo k f c=>YV d o k f c) (λo k f c h=>YL (.inr h)) p.kids (λo h1 j hj f' c' h2=>ih j (hkd2 j hj).1 o f' c' h1 h2) (λj hj=>(hkd2 j hj).2.1) out 0 ho hf ?_;rw[←hcat];omega
     ·rw[if_neg e4]
      by_cases e5:p.kind=5
      ·rw[if_pos e5,hk0]
       have hsn:=(hbk.snap e5).2;rw[hk0,hz0]at hsn;exact Nat.lt_of_lt_of_le (hgr _ _ hf hc (by omega)) (YV d _ _ _ _)
      ·rw[if_neg e5,if_pos (by omega),hk0]
       exact hgr _ _ (by omega) (by have:=hd0.2.2.1;omega) (by omega)
theorem Xn.built{l:List Nd}{c:Ck}(h:Xn l l c):De c.parts:=λi hi=>by
 rcases h.part hi with⟨j,x,_,_,q,_⟩|q
 ·left;rw[q]
 ·exact .inr q
theorem Gw{ps:List Pt}(hb:De ps){k:Nat}(h:yW ps k):0<(ZA ps k 0 (sz ps k)).length:=by
 have hh:=ua (f:=0) (c:=(sz ps k:Nat)) h.1 (by omega) (by have:=h.2.1;omega) (by omega);unfold ZA;rw[if_neg (by rw[hh];decide),Int.toNat_natCast];have:=FT hb ps.length k h.1 [] 0 (sz ps k:Nat) (by simp) hh
 simpa using this
end
section
theorem kP{l:List Nd}(hst:∀x ∈ l,uZ x)(r:List Nd):∀ {q:List Nd} {c c':Ck},l=q++r→Xn l q c→jR c r= .ok c'→Xn l l c':=by
 induction r with
 |nil =>
  intro q c c' e h hc;cases hc;rw[List.append_nil]at e;subst e;exact h
 |cons x r ih =>
  intro q c c' e h hc;simp only[jR]at hc;cases hs:jH c x with
  |error er=>rw[hs]at hc;cases hc
  |ok c1 =>
   rw[hs]at hc;exact ih (q:=q++ [x]) (by rw[e];simp) (h.step e (hst x (by rw[e];simp)) hs) hc
theorem dm{n:Nd}{s:VK}(hst:∀x ∈ n.l,uZ x)(h:Kz n= .ok s):∃c,Xn n.l n.l c∧vw c= .ok s:=by
 unfold Kz at h;cases hc:jR ⟨[],none,qo 0 n.l,none,false,0,[]⟩ n.l with
 |error e=>rw[hc]at h;cases h
 |ok c =>
  rw[hc]at h;exact⟨c,kP hst n.l (q:= []) rfl (Xn.start n.l) hc,h⟩
structure PW (s:VK) (i:Nat) (p:Pt):Prop where
 lo:1≤p.size
 hi:p.size≤8192
 kind:1≤p.kind∧p.kind≤8
 disk:p.kind=1→p.kids= []∧p.dev<s.devs.length∧p.dev≠s.jour∧s.devs.getD p.dev 0=p.size
 kids:∀k ∈ p.kids,k<i
 some':p.kind≠1→p.kids≠ []
 lin:p.kind=2→p.first+p.size≤sz s.parts (p.kids.getD 0 0)
 snap:p.kind=5→p.kids.length=2
 four:p.kids.length≤4
 fst:p.first≤8192
structure SW (s:VK):Prop where
 jour:s.jour<s.devs.length
 expo:yW s.parts s.expo
 few:s.parts.length≤72
 dfew:s.devs.length≤8
 dsz:∀d ∈ s.devs,d≤2048
 part:∀i (h:i<s.parts.length),PW s i s.parts[i]
 wf:XE s.parts
 reg:∀r ∈ ZA s.parts s.expo 0 (sz s.parts s.expo),∃d:Nat,r.d=d∧d<s.devs.length∧d≠s.jour∧0≤r.f∧1≤r.c∧r.f+r.c≤(s.devs.getD d 0:Nat)
 some':0<(ZA s.parts s.expo 0 (sz s.parts s.expo)).length
 le:(ZA s.parts s.expo 0 (sz s.parts s.expo)).length≤256
 apart:QD (ZA s.parts s.expo 0 (sz s.parts s.expo))=false
theorem Fx{l:List Nd}{c:Ck}(h:Xn l l c){j:Nat}{x:Nd}(hj:(l.filter yF)[j]?=some x)(hx:x.op=zc){J:Nat}(hJ:c.jour=some J):j<c.devs.length∧j≠J∧c.devs.getD j 0=x.n.toNat:=by
 have hlt:=(List.getElem?_eq_some_iff.1 hj).1;refine⟨by rw[h.devs,List.length_map];exact hlt,λe=>?_,?_⟩
 ·obtain⟨y,hy,ho⟩:=h.jour J hJ
  rw[←e,hj]at hy;cases hy;rw[hx]at ho;exact absurd ho (by decide)
 ·rw[h.devs,List.getD_eq_getElem?_getD,List.getElem?_map,hj]
  rfl
theorem zak{n:Nd}{s:VK}(hst:∀x ∈ n.l,uZ x)(h:Kz n= .ok s):SW s:=by
 obtain⟨c,hI,hw⟩:=dm hst h;have hx0:=hI.expo;obtain⟨j,x,ej,ex,es⟩:=Yp hw;have hx:=hx0 x ex;have hw':=hw;unfold vw at hw';rw[ej,ex]at hw';simp only at hw'
 have hpart:∀i (h:i<c.parts.length),PW s i c.parts[i]:=λi hi=>by
  rcases hI.part hi with⟨d,y,a,b,q,q1,q2⟩|q
  ·obtain⟨d1,d2,d3⟩:=Fx hI a b ej
   rw[q];refine⟨(by show 1≤y.n.toNat;omega),(by show y.n.toNat≤8192;omega),⟨Nat.le_refl _,(by show 1≤8;decide)⟩,λ_=>⟨rfl,by rw[es];exact d1,by rw[es];exact d2,by rw[es];exact d3⟩,(λk hk=>by cases hk),λe=>absurd rfl e,(λe=>by cases e),(λe=>by cases e),Nat.zero_le _,Nat.zero_le _⟩
  ·refine⟨q.lo,q.hi,⟨by have:=q.kind;omega,q.kind.2⟩,λe=>by have:=q.kind;omega,λk hk=>(Y0 (q.kids k hk)).1,λ_=>q.some',λe=>?_,λe=>(q.snap e).1,q.four,q.fst⟩
   have:=q.lin e;have h0:(c.parts[i]).kids.getD 0 0 ∈ (c.parts[i]).kids:=ZR (by have:=q.one (.inl e);omega);have h1:=(q.kids _ h0).1;have h2:=Xt (c.parts.take i) (c.parts.drop i) h1;rw[List.take_append_drop]at h2;rw[es,h2];exact this
 have hfew:c.parts.length≤72:=by
  have h1:=hI.few;have h2:=V8 n.l 0;have h3:=hI.le8
  have h4:(n.l.filter x9).length≤(n.l.filter yF).length:=by
   have :∀l:List Nd,(l.filter x9).length≤(l.filter yF).length:=by
    intro l
    induction l with
    |nil=>exact Nat.le_refl _
    |cons y l ih =>
     simp only[List.filter_cons];by_cases q:y.op=zc
     ·rw[if_pos (zaj q),if_pos (gc (.inl q))];simp;exact ih
     ·rw[FG q]
      simp only[Bool.false_eq_true,if_false]
      split
      ·simp;omega
      ·exact ih
   exact this n.l
  omega
 have hreg:∀r ∈ ZA c.parts x 0 (sz c.parts x),∃d:Nat,r.d=d∧d<c.devs.length∧d≠j∧0≤r.f∧1≤r.c∧r.f+r.c≤(c.devs.getD d 0:Nat):=λr hr=>by
  obtain⟨i,hi,hk,hd,h1,h2,h3⟩:=GN r hr;rw[vc hi]at hk hd;have hp:=hpart i hi;obtain⟨_,p1,p2,p3⟩:=hp.disk hk;rw[es]at p1 p2 p3;refine⟨c.parts[i].dev,hd,p1,p2,h1,by omega,?_⟩;have :sz c.parts i=c.parts[i].size:=by unfold sz;rw[vc hi]
  rw[this]at h3;have p3':c.devs.getD c.parts[i].dev 0=c.parts[i].size:=p3;rw[p3'];exact h3
 have hJ:j<c.devs.length:=by
  obtain⟨y,hy,_⟩:=hI.jour j ej;rw[hI.devs,List.length_map];exact(List.getElem?_eq_some_iff.1 hy).1
 have hD:∀d ∈ c.devs,d≤2048:=λd hd=>by
  rw[hI.devs]at hd;obtain⟨y,hy,rfl⟩:=List.mem_map.1 hd;have:=hI.ok y hy;omega
 have hD8:c.devs.length≤8:=by rw[hI.devs,List.length_map];exact hI.le8
 split at hw'
 ·cases hw'
 ·rename_i h256
  split at hw'
  ·cases hw'
  ·rename_i hov
   subst es;exact⟨hJ,hx,hfew,hD8,hD,hpart,hI.wf,hreg,Gw hI.built hx,Nat.le_of_not_lt h256,by simpa using hov⟩
theorem Fs{n:Nd}(hl:JS n){s:VK}(h:jK n= .ok s):SW s:=by
 unfold jK at h
 split at h
 ·rename_i hr
  exact zak (Yd hr hl) h
 ·cases h
end
section
open Go.ChangeShapes Go.WideShapes Go.ChangeAt Go.RowKit Go.MapKept
theorem xm.dev{w:World}{B:Nat}{s:VK}{vd vp:Value}(h:xm w B s vd vp)(hn:0<s.devs.length):∃g off C,vd= .slice (some ⟨g,off,none⟩) s.devs.length C∧s.devs.length≤C∧C≤maxLen∧g<w.heap.size∧∀d,d<s.devs.length→w.cell? ⟨g,off+d,none⟩=some (.int .i64 (s.devs.getD d 0:Nat)):=by
 obtain⟨g,C,e,h1,h2,h3,_,h4⟩:=Qo h.devs hn;refine⟨g,0,C,e,h1,h2,h3,λd hd=>?_⟩;rw[Nat.zero_add,h4 d (by omega),List.getElem?_map,List.getD_eq_getElem?_getD,List.getElem?_eq_getElem hd];rfl
theorem yP.all{w:World}{B g off:Nat}{ps:List Pt}(h:yP w B (some ⟨g,off,none⟩) ps){i:Nat}(hi:i<ps.length):∃Ak Ck A2 L2 C2 A3 L3 C3,(∀j,j<8→w.cell? ⟨g,off+i*8+j,none⟩=(#[.int .i64 (ps[i].kind:Nat),.int .i64 (ps[i].size:Nat),.slice Ak ps[i].kids.length Ck,.int .i64 (ps[i].dev:Nat),.int .i64 (ps[i].first:Nat),.int .i64 (ps[i].chunk:Nat),.slice A2 L2 C2,.slice A3 L3 C3]:Array Value)[j]?)∧Zs w (λg=>g<B) Ak ps[i].kids∧ps[i].kids.length≤Ck∧Ck≤maxLen:=by
 obtain⟨g',off',u,e,_,_,hc,hin⟩:=h i hi;cases e;obtain⟨⟨A1,C1,e1,a1,b1,i1⟩,⟨A2,C2,e2,a2,b2,i2⟩,⟨A3,C3,e3,a3,b3,i3⟩⟩:=hin;refine⟨A1,C1,A2,ps[i].key.length,C2,A3,ps[i].root.length,C3,λj hj=>?_,i1,a1,b1⟩;have:=hc j hj;unfold uW at this;rw[e1,e2,e3]at this;exact this
end
end Go.Proofs.YtebcfkigbbolaaaGreatDoor
