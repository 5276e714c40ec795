import Derived.Test.YteaddcdpgcgggaaGreatDoorJoint13
import Derived.Test.YteaddcdpgcgggaaGreatDoorJoint09
import Derived.Test.YteaddcdpgcgggaaGreatDoorJoint15
import Derived.Test.YteaddcdpgcgggaaGreatDoorJoint14
namespace Go.Proofs.YteaddcdpgcgggaaGreatDoor
set_option linter.unusedVariables false
set_option maxRecDepth 100000
set_option maxHeartbeats 40000000
section
open Go.ChangeShapes Go.WideShapes Go.ChangeAt Go.RowKit Go.MapKept
theorem UO:∀(i:Nat) (x:List UInt8) (h:2*i+1<x.length),(qw x)[i]?=some (UInt8.ofNat (16*hv1 (x[2*i]'(by omega))+hv1 (x[2*i+1]'h)))
 |0,a::b::r,_=>rfl
 |i+1,a::b::r,h=>by
  have:=UO i r (by simp at h;omega);exact this
 |_,[],h=>absurd h (by simp)
 |_,[_],h=>absurd h (by simp)
theorem Yd:∀(x:List UInt8),(qw x).length=x.length / 2
 |a::b::r=>by simp[qw,Yd r];omega
 | []=>rfl
 | [a]=>by simp[qw]
theorem zcW:VO 63 5 1 1:=⟨Tryz.underlying63,⟨.int .u8 0,by kernel_rfl,rfl⟩,by decide,by decide⟩
def Xb(l:List UInt8):List Value:=l.map λc=> .int .u8 (c.toNat:Nat)
theorem ZQ{o:Oper}{a:Act}(x i:Operand)(ho:o.op= .index 9 x i)(l:List UInt8)(k:Nat)(kI:Int)(hx:a.eval x= .string (bs l))(hi:a.eval i= .int .i64 kI)(hkI:kI=(k:Nat))(hk:k<l.length)(c:Nat)(hc:c=(l[k]).toNat)(w:World):(execOp a.eval o).run Tryz.prog w= .ok (.value (.int .u8 (c:Nat))) w:=by
 have hs:k<(bs l).size:=by rw[zJ];exact hk
 have hg:=qa l k hs;have h1:(k:Int)<((bs l).size:Int):=by omega
 subst hkI;subst hc;rw[←hg];unfold execOp;simp only[ho,hx,hi];go_simp
theorem fX{w wr:World}{v:Value}{l:List UInt8}(h:wr.ownsRow w.heap.size 5 1 v l.length (Xb l)):dJ w wr v l:=by
 by_cases hn:0<l.length
 ·obtain⟨g,C,e,h1,h2,h3,h3',h4⟩:=xl h hn
  refine⟨some ⟨g,0,none⟩,C,e,h1,h2,.inr ⟨g,0,rfl,h3,h3',λj hj=>?_⟩⟩;rw[Nat.zero_add,h4 j (by omega)];unfold Xb;rw[List.getElem?_map,List.getElem?_eq_getElem hj];rfl
 ·have e:l= []:=List.length_eq_zero_iff.1 (by omega)
  subst e;rcases h.2 with⟨e,h0⟩|⟨g,cap,cur,e,_,_,hn',hm,_⟩
  ·exact⟨none,0,e,Nat.le_refl _,by unfold maxLen;omega,.inl rfl⟩
  ·exact⟨_,_,e,hn',hm,.inl rfl⟩
theorem Vk{a b:Int}(h:a=b):Value.int .i64 a= .int .i64 b:=by rw[h]
theorem GU{c:UInt8}(h:zG c=true):(48≤c.toNat∧c.toNat≤57)∨(97≤c.toNat∧c.toNat≤102):=by
 unfold zG zz at h;simp at h;omega
theorem Hx(x:List UInt8)(w:World)(hl:x.length≤1000)(hf:∀c ∈ x,zG c=true):Calls Tryz.prog 42 #[.string (bs x)] w λe w'=>∃v,e= .returned v∧dJ w w' v (qw x)∧Below w.heap.size w w':=by
 have hsz:=zJ x;have hul:=Yd x;have HUL:=ze hul;have HSZ:=ze hsz;have HF:=ze hf;have hsz2:((bs x).size:Int)=(x.length:Int):=by omega
 obtain⟨XL,hXL⟩:∃XL,XL=x.length:=⟨_,rfl⟩
 obtain⟨U,hU⟩:∃U,U=(qw x).length:=⟨_,rfl⟩
 have hU2:U=XL / 2:=by rw[hU,hXL];exact hul
 have HXL:=ze hXL;have HU:=ze hU;rw[←hXL]at hsz hsz2 hl;have HU2:=ze hU2;have hUl:2*U≤XL∧XL<2*U+2:=by omega
 clear hul hf hXL hU hU2 hsz2;go_enter Tryz.func42,Tryz.ntmps42
 go_wp2
 go_loopw [3,4] (λz3 z4 wr=>∃(j q:Nat),z4= .int .i64 (q:Nat)∧q=2*j∧j≤U∧wr.ownsRow w.heap.size 5 1 z3 j (Xb ((qw x).take j))∧Below w.heap.size w wr) (λ_ z4 _=>XL+2-(intOf z4).toNat)
 case atStart=>exact⟨0,0,rfl,rfl,Nat.zero_le _,⟨rfl,.inl ⟨rfl,rfl⟩⟩,Below.refl _ _⟩
 case round =>
  obtain⟨j,q,rfl,hq,hj,hrow,hB⟩:=hrel;have HQ:=ze hq;by_cases hlt:j<U
  ·have h1:q+1<XL:=by omega
   have hli:(q:Int)+1<(XL:Int):=by omega
   have hax:2*j+1<x.length:=by rw[←HXL.out];omega
   have hat:=UO j x hax
   obtain⟨ca,hca⟩:∃ca,ca=(x[2*j]'(by omega)).toNat:=⟨_,rfl⟩
   obtain⟨cb,hcb⟩:∃cb,cb=(x[2*j+1]'hax).toNat:=⟨_,rfl⟩
   have ra:=GU (HF.out _ (List.getElem_mem (by omega:2*j<x.length)));have rb:=GU (HF.out _ (List.getElem_mem hax));rw[←hca]at ra;rw[←hcb]at rb
   obtain⟨Ha,hHa⟩:∃Ha,Ha=hv1 (x[2*j]'(by omega)):=⟨_,rfl⟩
   obtain⟨Hb,hHb⟩:∃Hb,Hb=hv1 (x[2*j+1]'hax):=⟨_,rfl⟩
   have hHa2:(Ha:Int)=if 97≤ca then(ca:Int)-87 else(ca:Int)-48:=by
    rw[hHa,hca];unfold hv1;split<;>(rw[←hca];omega)
   have hHb2:(Hb:Int)=if 97≤cb then(cb:Int)-87 else(cb:Int)-48:=by
    rw[hHb,hcb];unfold hv1;split<;>(rw[←hcb];omega)
   have hH15:Ha≤15∧Hb≤15:=by omega
   rw[←hHa,←hHb]at hat
   obtain⟨K,hK⟩:∃K,K=16*Ha+Hb:=⟨_,rfl⟩
   rw[←hK]at hat;have hK255:K≤255:=by omega
   have HK:=ze hK;have HA2:=ze hHa2;have HB2:=ze hHb2;have HCA:=ze hca;have HCB:=ze hcb;have HAX:=ze hax;have hrow':(wr.alloc (.cells #[.int .u8 (K:Nat)] 5)).ownsRow w.heap.size 5 1 u3 j (Xb ((qw x).take j)):=zI hrow (λg o e ho=>((zl wr _).block g (Array.getElem?_eq_some_iff.1 ho).1).trans ho);obtain⟨A6,C6,w6,hr6,hrow6,hg6,hw6⟩:=zX zcW (ty:=63) (wr.alloc (.cells #[.int .u8 (K:Nat)] 5)) w.heap.size j u3 _ hrow' (by have:=hB.size;simp;omega) (by omega) [.int .u8 (K:Nat)] rfl (by intro u hu;simp at hu;subst hu;rfl) wr.heap.size (zm.new_at rfl);have HB6:=ze ((hB.alloc hB.size _).trans (QB hrow' hg6 (by have:=hB.size;simp;omega)):Below w.heap.size w w6)
   have HR6:=ze (show w6.ownsRow w.heap.size 5 1 (.slice A6 (j+1) C6) (j+1) (Xb ((qw x).take (j+1)))from by
    rw[List.take_add_one,hat];unfold Xb at hrow6 ⊢;rw[List.map_append];have :(UInt8.ofNat K).toNat=K:=by simp;omega
    simp only[Option.toList,List.map_cons,List.map_nil,this]
    exact hrow6)
   have r1:(48:Int)≤(ca:Int):=by omega
   have r2:(ca:Int)≤102:=by omega
   have r3:(48:Int)≤(cb:Int):=by omega
   have r4:(cb:Int)≤102:=by omega
   have r5:(Ha:Int)≤15:=by omega
   have r6:(0:Int)≤(Ha:Int):=by omega
   have r7:(K:Int)≤255:=by omega
   have r8:(0:Int)≤(K:Int):=by omega
   have hql:(q:Int)≤1000:=by omega
   clear hq hat hca hcb hHa hHb hHa2 hHb2 hK hrow6 hrow' ra rb
   go_wp2
   go_loop [5,6] (λz5 z6=>(z6= .int .i64 0∧z5= .int .i64 0)∨(z6= .int .i64 1∧z5= .int .i64 (Ha:Nat))∨(z6= .int .i64 2∧z5= .int .i64 (K:Nat))) (λ_ z6=>2-(intOf z6).toNat)
   case atStart=>exact .inl ⟨rfl,rfl⟩
   case round =>
    rcases hrel with⟨rfl,rfl⟩|⟨rfl,rfl⟩|⟨rfl,rfl⟩
    ·by_cases h97:(97:Int)≤(ca:Int)
     ·go_wp2_with (first
       |((with_reducible refine zi 23 rfl ?_)
         (refine zd (some 23) (.int .u8 (ca:Nat)) rfl (by rfl) (ZQ _ _ rfl x (2*j) (q:Nat) rfl rfl (by rw[HQ.out]) (by have:=HAX.out;omega) ca HCA.out _) ?_)))
      go_round
      case rel=>exact .inr (.inl ⟨rfl,Vk (by rw[HA2.out,if_pos (by omega)];omega)⟩)
      case measure=>simp[intOf]
     ·go_wp2_with (first
       |((with_reducible refine zi 23 rfl ?_)
         (refine zd (some 23) (.int .u8 (ca:Nat)) rfl (by rfl) (ZQ _ _ rfl x (2*j) (q:Nat) rfl rfl (by rw[HQ.out]) (by have:=HAX.out;omega) ca HCA.out _) ?_)))
      go_round
      case rel=>exact .inr (.inl ⟨rfl,Vk (by rw[HA2.out,if_neg (by omega)])⟩)
      case measure=>simp[intOf]
    ·by_cases h97:(97:Int)≤(cb:Int)
     ·go_wp2_with (first
       |((with_reducible refine zi 23 rfl ?_)
         (refine zd (some 23) (.int .u8 (cb:Nat)) rfl (by rfl) (ZQ _ _ rfl x (2*j+1) ((q:Int)+1) rfl rfl (by rw[HQ.out];rfl) HAX.out cb HCB.out _) ?_)))
      go_round
      case rel=>exact .inr (.inr ⟨rfl,Vk (by rw[HK.out,Int.natCast_add,HB2.out,if_pos (by omega)];omega)⟩)
      case measure=>simp[intOf]
     ·go_wp2_with (first
       |((with_reducible refine zi 23 rfl ?_)
         (refine zd (some 23) (.int .u8 (cb:Nat)) rfl (by rfl) (ZQ _ _ rfl x (2*j+1) ((q:Int)+1) rfl rfl (by rw[HQ.out];rfl) HAX.out cb HCB.out _) ?_)))
      go_round
      case rel=>exact .inr (.inr ⟨rfl,Vk (by rw[HK.out,Int.natCast_add,HB2.out,if_neg (by omega)];omega)⟩)
      case measure=>simp[intOf]
    ·go_wp2_with (first
      |((with_reducible refine zi 40 rfl ?_)
        (refine jP (some 40) (.slice A6 (j+1) C6) w6 rfl (by rfl) (zW _ _ rfl rfl rfl hr6) ?_)))
     go_roundw
     case rel=>exact⟨j+1,q+2,by go_num,by rw[HQ.out];omega,by omega,HR6.out,HB6.out⟩
     case measure=>simp[intOf];omega
  ·obtain rfl:j=U:=by omega
   have hli:¬(q:Int)+1<(XL:Int):=by omega
   have hql:(q:Int)≤1000:=by omega
   clear hq
   go_wp2
   go_ret
   refine⟨_,rfl,?_,hB⟩;rw[HU.out]at hrow;rw[List.take_length]at hrow;exact fX hrow
def RSt(E:Nat→Prop)(w:World)(cb:Nat)(V:RV)(k':Rk)(e:Ending)(w':World):Prop:=e= .returned (.tuple #[])∧∃V',zZ (λg=>E g∨w.heap.size≤g) w' cb V' k'∧Sp (V.own cb) w (V'.own cb) w'
def QM(k:Rk)(n:Nd):Rk:=zA k (decide (0<k.exports)) 138 n.a
def yV(k:Rk)(n:Nd):Rk:={ QM k n with exports:=(QM k n).exports+1 }
def DQ(k:Rk)(n:Nd):Rk:={ (Ze (yV k n) n.s n.a).2 with expo:=(Ze (yV k n) n.s n.a).1,ro:=n.n==1,place:=n.a }
def rh(k:Rk)(n:Nd):Rk:=zA k (decide (0≤QJ k.things n.s)) 132 n.a
def Zh(k:Rk)(n:Nd):Rk:={ rh k n with devices:=(rh k n).devices+1 }
def QR(k:Rk)(n:Nd):Rk:=zA (Zh k n) (decide (8<(Zh k n).devices)) 137 n.a
def vU(k:Rk)(n:Nd)(least:Int):Rk:=zA (QR k n) (decide (n.n<least)||decide (2048<n.n)) 134 n.a
def xO(k:Rk)(n:Nd)(least:Int):Rk:={ vU k n least with devs:=(vU k n least).devs++ [n.n] }
def Jr(k:Rk)(n:Nd):Rk:={ xO k n 1 with things:=(xO k n 1).things++ [⟨n.s,n.op,(VJ (xO k n 1).parts (k.devs.length):Nat),[]⟩] }
def Up(k:Rk)(n:Nd):Rk:=zA (xO k n 256) (decide (0<(xO k n 256).journals)) 138 n.a
def rj2(k:Rk)(n:Nd):Rk:={ Up k n with journals:=(Up k n).journals+1 }
def KH(k:Rk)(n:Nd):Rk:={ rj2 k n with jour:=(k.devs.length:Nat) }
def Zm(k:Rk)(n:Nd):Rk:={ KH k n with things:=(KH k n).things++ [⟨n.s,n.op,0,[]⟩] }
def UJ(k:Rk)(n:Nd):Rk:={ rh k n with keys:=(rh k n).keys+1 }
def UW(k:Rk)(n:Nd):Rk:=zA (UJ k n) (decide (8<(UJ k n).keys)) 137 n.a
def Y8(k:Rk)(n:Nd):Rk:=zA (UW k n) (((zH n.l 0).s.length:Int) != 64) 135 n.a
def UT(k:Rk)(n:Nd):Rk:={ Y8 k n with things:=(Y8 k n).things++ [⟨n.s,n.op,0,qw (zH n.l 0).s⟩] }
def kT(k:Rk)(n:Nd):Rk:={ rh k n with volumes:=(rh k n).volumes+1 }
def QN(k:Rk)(n:Nd):Rk:=zA (kT k n) (decide (16<(kT k n).volumes)) 137 n.a
def RVo(k:Rk)(ns:vJ)(n:Nd)(k':Rk):Prop:=
 ((QN k n).bad≠0∧k'= { QN k n with things:=(QN k n).things++ [⟨n.s,n.op,0,[]⟩] }) ∨
 ((QN k n).bad=0∧∃r k3,Tl (QN k n) (jb ns 12 (QN k n).parts (zH n.l 0)) QI r k3∧k'= { k3 with things:=k3.things++ [⟨n.s,n.op,r,[]⟩] })
def zdf(E:Nat→Prop)(w:World)(cb:Nat)(V:RV)(k:Rk)(ns:vJ)(n:Nd)(e:Ending)(w':World):Prop:=e= .returned (.tuple #[])∧∃V' k',RVo k ns n k'∧zZ (λg=>E g∨w.heap.size≤g) w' cb V' k'∧Sp (V.own cb) w (V'.own cb) w'
theorem KU{k:Rk}{b:Bool}{e a:Int}(he:e≠0)(h:(zA k b e a).bad=0):k.bad=0:=by
 unfold zA at h
 split at h
 ·exact absurd h he
 ·exact h
theorem zbi{k:Rk}{n:Nd}(h:(QN k n).bad=0):k.bad=0:=by
 unfold QN at h;have h1:=KU (by decide) h;unfold kT rh at h1;exact KU (by decide) (show(zA k _ _ _).bad=0 from h1)
structure gQ (k:Rk):Prop where
 jo:0≤k.journals∧k.journals≤100000
 ex:0≤k.exports∧k.exports≤100000
 de:0≤k.devices∧k.devices≤100000
 ke:0≤k.keys∧k.keys≤100000
 vo:0≤k.volumes∧k.volumes≤100000
 dl:k.devs.length≤10000
 tl:k.things.length≤10000
theorem jy(k:Rk)(b:Bool)(e a:Int):(zA k b e a).journals=k.journals∧(zA k b e a).exports=k.exports∧(zA k b e a).devices=k.devices∧(zA k b e a).keys=k.keys∧(zA k b e a).volumes=k.volumes:=by unfold zA;split<;>exact⟨rfl,rfl,rfl,rfl,rfl⟩
theorem jx(k:Rk)(b:Bool)(e a:Int):(zA k b e a).devs=k.devs∧(zA k b e a).things=k.things:=by unfold zA;split<;>exact⟨rfl,rfl⟩
theorem JX:VO 59 95 4 64:=⟨Tryz.underlying59,⟨.agg #[.string ⟨#[]⟩,.string ⟨#[]⟩,.int .i64 0,.slice none 0 0],by kernel_rfl,rfl⟩,by decide,by decide⟩
theorem vH{o:Oper}{a:Act}(x:Operand)(ho:o.op= .load 95 x)(g:Nat)(hx:a.eval x= .pointer (some ⟨g,0,none⟩)){x0 x1 x2 x3:Value}(w:World){t:Nat}(h:zm w g t #[x0,x1,x2,x3]):(execOp a.eval o).run Tryz.prog w= .ok (.value (.agg #[x0,x1,x2,x3])) w:=by
 have q0:=h.cell 0;have q1:=h.cell 1;have q2:=h.cell 2;have q3:=h.cell 3;simp only[qH,qG,qI]at q0 q1 q2 q3;unfold execOp;simp only[ho,hx];go_simp
theorem Vy{F F':Nat→Prop}{w w':World}(s:Sp F w F' w'){p:Addr}(hp:w.heap.size≤p.block)(v:Value):Sp F w F' (w'.setCell p v):=
 ⟨⟨s.only.os,s.only.tape,s.only.output,by have:=s.size;simpa using this,λk hk hn=>(Below.heap_setCell w' p v k (by omega)).trans (s.only.block k hk hn)⟩,s.new⟩
theorem Qd{o:Oper}{a:Act}(K:Int)(x:Operand)(ho:o.op= .binOp .geq 3 x (.const (.int .i64 K)) 3)(X:Int)(hx:a.eval x= .int .i64 X)(c:Bool)(h:decide (K≤X)=c)(w:World):(execOp a.eval o).run Tryz.prog w= .ok (.value (.bool c)) w:=by
 unfold execOp;simp only[ho,hx];rw[←h];go_simp
theorem kJ{o:Oper}{a:Act}(K:Int)(x:Operand)(ho:o.op= .binOp .neq 3 x (.const (.int .i64 K)) 3)(X:Int)(hx:a.eval x= .int .i64 X)(w:World):(execOp a.eval o).run Tryz.prog w= .ok (.value (.bool (X != K))) w:=by
 unfold execOp;simp only[ho,hx];go_simp
theorem Yr{o:Oper}{a:Act}(x:Operand)(ho:o.op= .call { callee:= .builtin .len,args:=#[x],argTypes:=#[9] })(l:List UInt8)(N:Nat)(hx:a.eval x= .string (bs l))(hN:N=l.length)(w:World):(execOp a.eval o).run Tryz.prog w= .ok (.value (.int .i64 (N:Nat))) w:=by
 have hs:=zJ l;subst hN;rw[←hs];unfold execOp;simp only[ho,resolve,invoke,builtin,Sem.run_bind,Sem.run_pure,Result.andThen_ok,List.map_toArray,List.map_cons,List.map_nil,hx];clear hx ho hs;generalize bs l=q;go_simp
theorem yQ{o:Oper}{a:Act}(K:Int)(x:Operand)(ho:o.op= .binOp .gtr 3 x (.const (.int .i64 K)) 3)(X:Int)(hx:a.eval x= .int .i64 X)(c:Bool)(h:decide (K<X)=c)(w:World):(execOp a.eval o).run Tryz.prog w= .ok (.value (.bool c)) w:=by
 unfold execOp;simp only[ho,hx];rw[←h];go_simp
theorem uO{E:Nat→Prop}{w:World}{cb:Nat}{V:RV}{k:Rk}(h:zZ E w cb V k)(n:Nd)(A:Option Addr)(L C:Nat)(ho:n.op=qj)(hf:gQ k):Calls Tryz.prog 18 #[.pointer (some ⟨cb,0,none⟩),.agg #[.string (bs n.op),.string (bs n.s),.int .i64 n.n,.int .i64 n.a,.slice A L C]] w (RSt E w cb V (DQ k n)):=by
 obtain⟨W1,hW1⟩:∃W1,W1=w.alloc (.cells #[.string (bs n.op),.string (bs n.s),.int .i64 n.n,.int .i64 n.a,.slice A L C] 24):=⟨_,rfl⟩
 have hb1:Below w.heap.size w W1:=by rw[hW1];exact zl w _
 have N1:zm W1 w.heap.size 24 #[.string (bs n.op),.string (bs n.s),.int .i64 n.n,.int .i64 n.a,.slice A L C]:=by rw[hW1];exact zm.new w _ _
 have h1:zZ E W1 cb V k:=h.keep hb1;have HW:=ze hW1;have HNO:=ze (show ¬V.own cb w.heap.size from λq=>absurd (h.low q).2 (Nat.lt_irrefl _));have hot:=zp n.op;have f0:(n.op== [101,120,112,111,114,116])=true:=by rw[ho];decide
 obtain⟨XE,hXE⟩:∃XE,XE=k.exports:=⟨_,rfl⟩
 have hxe:=hf.ex;rw[←hXE]at hxe;obtain⟨hxe0,hxe1⟩:=hxe;have HXE:=ze hXE;have nn0:=N1.cell 0;have c7:=h1.has.cell 7;have n3r:=N1.cell 3;have nl:=N1.lt;simp only[vh,List.getElem?_toArray,List.getElem?_cons_zero,List.getElem?_cons_succ]at nn0 c7 n3r;rw[←hXE]at c7;have HB1:=ze hb1
 obtain⟨R,hR⟩:∃R,R=DQ k n:=⟨_,rfl⟩
 have HR:=ze hR;rw[←hR];clear hW1 hXE hf ho hR hb1;go_enter Tryz.func18,Tryz.ntmps18
 go_wp2_with (first
  |((with_reducible refine zi 6 rfl ?_)
    rw[←HW.out];(refine zd (some 6) (.pointer (some ⟨w.heap.size,0,none⟩)) rfl (by rfl) (by unfold execOp;go_simp) ?_)))
 refine wp_region_held_drew (S:=λwz=>wz.cell? ⟨cb,7,none⟩=some (.int .i64 XE)∧wz.cell? ⟨w.heap.size,3,none⟩=some (.int .i64 n.a)) (by kernel_rfl) (⟨c7,n3r⟩) (λhHeld=>?_);refine zw 0 (some 9) (.pointer (some ⟨cb,0,none⟩)) hHeld ?_;simp only[Act.put,zh,zf,zg];refine zw 1 (some 10) (.pointer (some ⟨cb,0,none⟩)) hHeld ?_;simp only[Act.put,zh,zf,zg];refine zw 2 (some 11) (.pointer (some ⟨cb,0,none⟩)) hHeld ?_;simp only[Act.put,zh,zf,zg];refine zw 3 (some 12) (.pointer (some ⟨cb,7,none⟩)) hHeld ?_;simp only[Act.put,zh,zf,zg];refine zD 4 (some 13) (.int .i64 XE) rfl rfl (λwz hz=>by obtain⟨z0,z1⟩:=hz;unfold execOp;go_simp) hHeld ?_;simp only[Act.put,zh,zf,zg];refine zD 5 (some 14) (.bool (decide (0<XE))) rfl rfl (λwz _=>yQ 0 _ rfl _ rfl (decide (0<XE)) rfl wz) hHeld ?_;simp only[Act.put,zh,zf,zg];refine zw 6 (some 15) (.pointer (some ⟨w.heap.size,3,none⟩)) hHeld ?_;simp only[Act.put,zh,zf,zg];refine zD 7 (some 16) (.int .i64 n.a) rfl rfl (λwz hz=>by obtain⟨z0,z1⟩:=hz;unfold execOp;go_simp) hHeld ?_;simp only[Act.put,zh,zf,zg];refine qY 8 (some 17) 19 #[.pointer (some ⟨cb,0,none⟩),.bool (decide (0<XE)),.int .i64 138,.int .i64 n.a] (by kernel_rfl) rfl rfl (by rfl) (by kernel_rfl) (qk (h1.keep (Below.refl _ W1).drew) (decide (0<XE)) 138 n.a) ?_;rintro e W2 ⟨rfl,h2',s2'⟩;have s2:Sp (V.own cb) W1 (V.own cb) W2:=Sp.left (Below.refl _ W1).drew s2'
 have h2:zZ E W2 cb V (QM k n):=by
  unfold QM;rw[←HXE.out];exact h2'
 have N2:=N1.onl s2.only HNO.out;have eX:(QM k n).exports=XE:=by unfold QM;rw[(jy _ _ _ _).2.1,HXE.out]
 have c72:=h2.has.cell 7;have f72:=h2.has.free 7;have l72:=h2.has.lt;have n32:=N2.cell 3;have n22:=N2.cell 2;have n12:=N2.cell 1;have nl2:=N2.lt;simp only[vh,List.getElem?_toArray,List.getElem?_cons_zero,List.getElem?_cons_succ]at c72 n32 n22 n12;rw[eX]at c72;refine⟨_,rfl,⟨c72,n32⟩,?_⟩;simp only[Act.put,zh,zf,zg];refine wpAnyH_done (by kernel_rfl) ?_ _;obtain⟨h2p,s2p⟩:=h2.put (yV k n) 7 (.int .i64 (XE+1)) (by unfold yV;rw[eX];rfl) rfl rfl rfl;have hv:=dL h2p n.s n.a;have hncb:¬w.heap.size=cb:=λe=>HNO.out (.inl e)
 have hncb2:¬cb=w.heap.size:=λe=>HNO.out (.inl e.symm)
 have N2p:=N2.other (p:=⟨cb,7,none⟩) (show w.heap.size≠cb from hncb) (.int .i64 (XE+1));have hs12:=s2.trans s2p
 obtain⟨r,hr⟩:∃r,r=(Ze (yV k n) n.s n.a).1:=⟨_,rfl⟩
 obtain⟨k3,hk3⟩:∃k3,k3=(Ze (yV k n) n.s n.a).2:=⟨_,rfl⟩
 rw[←hr,←hk3]at hv;have HRK:=ze (show R= { k3 with expo:=r,ro:=n.n==1,place:=n.a } from by rw[HR.out,hr,hk3];rfl);have HHS:=ze hs12;clear hHeld h2' s2' s2 c7 n3r nn0 nl N1 h1 h2 h2p s2p hr hk3 hs12 eX
 go_wp2_with (first
  |((go_at_call 39)
    refine hv.mono ?_;rintro e W3 ⟨rfl,h3,s3⟩;have N3:=N2p.onl s3.only HNO.out;have q2:=N3.cell 2;have q3:=N3.cell 3;have ql:=N3.lt;have p3:=h3.has.cell 3;have p4:=h3.has.cell 4;have p11:=h3.has.cell 11;have g3:=h3.has.free 3;have g4:=h3.has.free 4;have g11:=h3.has.free 11;have pl:=h3.has.lt;simp only[vh,List.getElem?_toArray,List.getElem?_cons_zero,List.getElem?_cons_succ]at q2 q3 p3 p4 p11;(clear hv)))
 refine bodyPost_ret (results_none rfl _ _ _) rfl ?_;obtain⟨a1,b1⟩:=h3.put { k3 with expo:=r } 3 (.int .i64 r) rfl rfl rfl rfl;obtain⟨a2,b2⟩:=a1.put { k3 with expo:=r,ro:=n.n==1 } 4 (.bool (n.n==1)) rfl rfl rfl rfl;obtain⟨a3,b3⟩:=a2.put { k3 with expo:=r,ro:=n.n==1,place:=n.a } 11 (.int .i64 n.a) rfl rfl rfl rfl;rw[HRK.out];exact⟨rfl,V,a3.mono (λg _ _ e=> .inl e),Sp.left HB1.out (((((HHS.out.trans s3).trans b1).trans b2).trans b3))⟩
theorem ux{E:Nat→Prop}{w:World}{cb:Nat}{V:RV}{k:Rk}(h:zZ E w cb V k)(hE:∀g,w.heap.size≤g→¬E g)(n:Nd)(A:Option Addr)(L C:Nat)(ho:n.op=zn)(hf:gQ k):Calls Tryz.prog 18 #[.pointer (some ⟨cb,0,none⟩),.agg #[.string (bs n.op),.string (bs n.s),.int .i64 n.n,.int .i64 n.a,.slice A L C]] w (RSt E w cb V (Jr k n)):=by
 obtain⟨W1,hW1⟩:∃W1,W1=w.alloc (.cells #[.string (bs n.op),.string (bs n.s),.int .i64 n.n,.int .i64 n.a,.slice A L C] 24):=⟨_,rfl⟩
 have hb1:Below w.heap.size w W1:=by rw[hW1];exact zl w _
 have N1:zm W1 w.heap.size 24 #[.string (bs n.op),.string (bs n.s),.int .i64 n.n,.int .i64 n.a,.slice A L C]:=by rw[hW1];exact zm.new w _ _
 have h1:zZ E W1 cb V k:=h.keep hb1;have HW:=ze hW1;have HNO:=ze (show ¬V.own cb w.heap.size from λq=>absurd (h.low q).2 (Nat.lt_irrefl _));have hot:=zp n.op;have f0:(n.op== [101,120,112,111,114,116])=false:=by rw[ho];decide
 have f1:(n.op== [100,101,118,105,99,101])=true:=by rw[ho];decide
 have f2:(n.op== [106,111,117,114,110,97,108])=false:=by rw[ho];decide
 obtain⟨FD,hFD⟩:∃FD,FD=QJ k.things n.s:=⟨_,rfl⟩
 have HFD:=ze hFD
 obtain⟨DV,hDV⟩:∃DV,DV=k.devices:=⟨_,rfl⟩
 have hdv:=hf.de;rw[←hDV]at hdv;obtain⟨hdv0,hdv1⟩:=hdv;have HDV:=ze hDV;have HDL:=ze hf.dl;have HTL:=ze hf.tl;have nn0:=N1.cell 0;have n1r:=N1.cell 1;have n3r:=N1.cell 3;have nl:=N1.lt;simp only[qH,qG,qI]at nn0 n1r n3r;have HB1:=ze hb1
 obtain⟨R,hR⟩:∃R,R=Jr k n:=⟨_,rfl⟩
 have HR:=ze hR;rw[←hR];have hncb:¬w.heap.size=cb:=λe=>HNO.out (.inl e)
 have hncb2:¬cb=w.heap.size:=λe=>HNO.out (.inl e.symm)
 clear hW1 hDV hf ho hR hb1 hFD;go_enter Tryz.func18,Tryz.ntmps18
 go_wp2_with (first
  |((with_reducible refine zi 6 rfl ?_)
    rw[←HW.out];(refine zd (some 6) (.pointer (some ⟨w.heap.size,0,none⟩)) rfl (by rfl) (by unfold execOp;go_simp) ?_)))
 refine wp_region_held_drew (S:=λwz=>wz.cell? ⟨w.heap.size,1,none⟩=some (.string (bs n.s))∧wz.cell? ⟨w.heap.size,3,none⟩=some (.int .i64 n.a)) (by kernel_rfl) (⟨n1r,n3r⟩) (λhHeld=>?_);refine zw 0 (some 47) (.pointer (some ⟨cb,0,none⟩)) hHeld ?_;simp only[Act.put,zh,zf,zg];refine zw 1 (some 48) (.pointer (some ⟨cb,0,none⟩)) hHeld ?_;simp only[Act.put,zh,zf,zg];refine zw 2 (some 49) (.pointer (some ⟨w.heap.size,1,none⟩)) hHeld ?_;simp only[Act.put,zh,zf,zg];refine zD 3 (some 50) (.string (bs n.s)) rfl rfl (λwz hz=>by obtain⟨z0,z1⟩:=hz;unfold execOp;go_simp) hHeld ?_;simp only[Act.put,zh,zf,zg];refine zw 6 (some 53) (.pointer (some ⟨w.heap.size,3,none⟩)) hHeld ?_;simp only[Act.put,zh,zf,zg];refine zD 7 (some 54) (.int .i64 n.a) rfl rfl (λwz hz=>by obtain⟨z0,z1⟩:=hz;unfold execOp;go_simp) hHeld ?_;simp only[Act.put,zh,zf,zg];refine qY 4 (some 51) 40 #[.pointer (some ⟨cb,0,none⟩),.string (bs n.s)] (by kernel_rfl) rfl rfl (by rfl) (by kernel_rfl) (Qw (h1.keep (Below.refl _ W1).drew) n.s) ?_;rintro e Wf ⟨rfl,eWf⟩;rw[←HFD.out];refine⟨_,rfl,by rw[eWf];exact⟨za (Below.refl _ W1).drew n1r,za (Below.refl _ W1).drew n3r⟩,?_⟩;simp only[Act.put,zh,zf,zg];have hbf:Below W1.heap.size W1 Wf:=by rw[eWf];exact(Below.refl _ W1).drew
 clear eWf hHeld
 have hHeld:Wf.cell? ⟨w.heap.size,1,none⟩=some (.string (bs n.s))∧Wf.cell? ⟨w.heap.size,3,none⟩=some (.int .i64 n.a):=⟨za hbf n1r,za hbf n3r⟩
 refine zD 5 (some 52) (.bool (decide (0≤FD))) rfl rfl (λwz _=>Qd 0 _ rfl FD rfl (decide (0≤FD)) rfl wz) hHeld ?_;simp only[Act.put,zh,zf,zg];refine qY 8 (some 55) 19 #[.pointer (some ⟨cb,0,none⟩),.bool (decide (0≤FD)),.int .i64 132,.int .i64 n.a] (by kernel_rfl) rfl rfl (by rfl) (by kernel_rfl) (qk (h1.keep hbf) (decide (0≤FD)) 132 n.a) ?_;rintro e W2 ⟨rfl,h2',s2'⟩;have s2:Sp (V.own cb) W1 (V.own cb) W2:=Sp.left hbf s2'
 have h2:zZ E W2 cb V (rh k n):=by
  unfold rh;rw[←HFD.out];exact h2'
 have N2:=N1.onl s2.only HNO.out;refine⟨_,rfl,⟨by have q:=N2.cell 1;exact q,by have q:=N2.cell 3;exact q⟩,?_⟩;simp only[Act.put,zh,zf,zg];refine wpAnyH_done (by kernel_rfl) ?_ _;have HNT:=ze (show ¬V.own cb W2.heap.size from λq=>absurd (h2.low q).2 (Nat.lt_irrefl _));have HTW:=ze (show W1.heap.size≤W2.heap.size from s2.size);have HET:=ze (hE W2.heap.size (by have q1:=HB1.out.size;have q2:=s2.size;omega));have eD:(rh k n).devices=DV:=by unfold rh;rw[(jy _ _ _ _).2.2.1,HDV.out]
 have HDE:=ze (show(vU k n 1).devs.length=k.devs.length by unfold vU QR;rw[(jx _ _ _ _).1,(jx _ _ _ _).1];unfold Zh rh;show(zA k _ _ _).devs.length=_;rw[(jx _ _ _ _).1]);have HTE:=ze (show(xO k n 1).things.length=k.things.length by unfold xO vU QR;show(zA (zA _ _ _ _) _ _ _).things.length=_;rw[(jx _ _ _ _).2,(jx _ _ _ _).2];unfold Zh rh;show(zA k _ _ _).things.length=_;rw[(jx _ _ _ _).2])
 obtain⟨W4,hW4⟩:∃W4,W4=(W2.setCell ⟨cb,8,none⟩ (.int .i64 (DV+1))).alloc (.cells #[.string (bs n.s),.string (bs n.op),.int .i64 0,.slice none 0 0] 95):=⟨_,rfl⟩
 have HW4:=ze hW4;obtain⟨h4',s4'⟩:=h2.put (Zh k n) 8 (.int .i64 (DV+1)) (by unfold Zh;rw[eD];rfl) rfl rfl rfl;have h4:=h4'.alloc (.cells #[.string (bs n.s),.string (bs n.op),.int .i64 0,.slice none 0 0] 95);have hs4:=(s2.trans s4').trans (Sp.of (zl _ (.cells #[.string (bs n.s),.string (bs n.op),.int .i64 0,.slice none 0 0] 95)));have N4:=(N2.other (p:=⟨cb,8,none⟩) (show w.heap.size≠cb from hncb) (.int .i64 (DV+1))).alloc (.cells #[.string (bs n.s),.string (bs n.op),.int .i64 0,.slice none 0 0] 95);have T4:zm ((W2.setCell ⟨cb,8,none⟩ (.int .i64 (DV+1))).alloc (.cells #[.string (bs n.s),.string (bs n.op),.int .i64 0,.slice none 0 0] 95)) W2.heap.size 95 #[.string (bs n.s),.string (bs n.op),.int .i64 0,.slice none 0 0]:=zm.new_at (by simp);clear h4';rw[←hW4]at h4 hs4 N4 T4;have c82:=h2.has.cell 8;have f82:=h2.has.free 8;have l82:=h2.has.lt;have m0:=N2.cell 0;have m1:=N2.cell 1;have ml:=N2.lt;simp only[vh,List.getElem?_toArray,List.getElem?_cons_zero,List.getElem?_cons_succ]at c82 m0 m1;rw[eD]at c82;clear hHeld h2' s2' n1r n3r nn0 nl N1 h1 hW4 s4' hbf
 go_wp2
 rw[←HW4.out];clear c82 f82 l82 m0 m1 ml h2 N2 s2;have c84:=h4.has.cell 8;have n3r:=N4.cell 3;simp only[vh,List.getElem?_toArray,List.getElem?_cons_zero,List.getElem?_cons_succ]at c84 n3r;rw[show(Zh k n).devices=DV+1 from by unfold Zh;rw[eD]]at c84;refine wp_region_held_drew (S:=λwz=>wz.cell? ⟨cb,8,none⟩=some (.int .i64 (DV+1))∧wz.cell? ⟨w.heap.size,3,none⟩=some (.int .i64 n.a)) (by kernel_rfl) (⟨c84,n3r⟩) (λhHeld=>?_);refine zw 0 (some 73) (.pointer (some ⟨cb,0,none⟩)) hHeld ?_;simp only[Act.put,zh,zf,zg];refine zw 1 (some 74) (.pointer (some ⟨cb,0,none⟩)) hHeld ?_;simp only[Act.put,zh,zf,zg];refine zw 2 (some 75) (.pointer (some ⟨cb,0,none⟩)) hHeld ?_;simp only[Act.put,zh,zf,zg];refine zw 3 (some 76) (.pointer (some ⟨cb,8,none⟩)) hHeld ?_;simp only[Act.put,zh,zf,zg];refine zD 4 (some 77) (.int .i64 (DV+1)) rfl rfl (λwz hz=>by obtain⟨z0,z1⟩:=hz;unfold execOp;go_simp) hHeld ?_;simp only[Act.put,zh,zf,zg];refine zD 5 (some 78) (.bool (decide (8<DV+1))) rfl rfl (λwz _=>yQ 8 _ rfl _ rfl (decide (8<DV+1)) rfl wz) hHeld ?_;simp only[Act.put,zh,zf,zg];refine zw 6 (some 79) (.pointer (some ⟨w.heap.size,3,none⟩)) hHeld ?_;simp only[Act.put,zh,zf,zg];refine zD 7 (some 80) (.int .i64 n.a) rfl rfl (λwz hz=>by obtain⟨z0,z1⟩:=hz;unfold execOp;go_simp) hHeld ?_;simp only[Act.put,zh,zf,zg];refine qY 8 (some 81) 19 #[.pointer (some ⟨cb,0,none⟩),.bool (decide (8<DV+1)),.int .i64 137,.int .i64 n.a] (by kernel_rfl) rfl rfl (by rfl) (by kernel_rfl) (qk (h4.keep (Below.refl _ W4).drew) (decide (8<DV+1)) 137 n.a) ?_;rintro e W5 ⟨rfl,h5',s5'⟩;have s5:Sp (V.own cb) W4 (V.own cb) W5:=Sp.left (Below.refl _ W4).drew s5'
 have h5:zZ E W5 cb V (QR k n):=by
  unfold QR;rw[show(Zh k n).devices=DV+1 from by unfold Zh;rw[eD]];exact h5'
 have N5:=N4.onl s5.only HNO.out;have T5:=T4.onl s5.only HNT.out;refine⟨_,rfl,⟨by have q:=h5.has.cell 8;simp only[vh,List.getElem?_toArray,List.getElem?_cons_zero,List.getElem?_cons_succ]at q;rw[show(QR k n).devices=DV+1 from by unfold QR Zh;rw[(jy _ _ _ _).2.2.1,eD]]at q;exact q,by have q:=N5.cell 3;exact q⟩,?_⟩;simp only[Act.put,zh,zf,zg];refine wpAnyH_done (by kernel_rfl) ?_ _;have hs5:=hs4.trans s5;have m0:=N5.cell 0;have m2:=N5.cell 2;have m3:=N5.cell 3;have ml:=N5.lt;simp only[qH,qG,qI]at m0 m2 m3
 obtain⟨cc,hcc⟩:∃cc,cc=(decide (n.n<1)||decide (2048<n.n)):=⟨_,rfl⟩
 have hf6:=qk h5 cc 134 n.a;rw[show zA (QR k n) cc 134 n.a=vU k n 1 from by rw[hcc];rfl]at hf6;have HCC:=ze hcc;clear hHeld h5' s5' s5 c84 n3r h4 N4 T4 hs4 hcc eD;cases hls:decide (n.n<1)with
 |true =>
  have hcc:cc=true:=by rw[HCC.out,hls];rfl
  rw[hcc]at hf6
  go_wp2_with (first
   |((go_at_call 19)
     refine hf6.mono ?_;(rintro e W6 ⟨rfl,h6,s6⟩)))
  have N6:=N5.onl s6.only HNO.out;have T6:=T5.onl s6.only HNT.out;have hs6:=hs5.trans s6;have c0r:=h6.has.cell 0;have n2r:=N6.cell 2;simp only[vh,List.getElem?_toArray,List.getElem?_cons_zero,List.getElem?_cons_succ]at c0r n2r;clear m0 m2 m3 ml hf6 hs5 N5 T5 h5 s6 hls hcc HCC;refine jp (S:=λwz=>wz.cell? ⟨cb,0,none⟩=some V.vd∧wz.cell? ⟨w.heap.size,2,none⟩=some (.int .i64 n.n)) 13 (by kernel_rfl) (⟨c0r,n2r⟩) (λhHeld=>?_);refine ja 0 (some 98) (.pointer (some ⟨cb,0,none⟩)) hHeld ?_;simp only[Act.put,zh,zf,zg];refine ja 1 (some 99) (.pointer (some ⟨cb,0,none⟩)) hHeld ?_;simp only[Act.put,zh,zf,zg];refine ja 2 (some 100) (.pointer (some ⟨cb,0,none⟩)) hHeld ?_;simp only[Act.put,zh,zf,zg];refine ja 3 (some 101) (.pointer (some ⟨cb,0,none⟩)) hHeld ?_;simp only[Act.put,zh,zf,zg];refine ja 4 (some 102) (.pointer (some ⟨cb,0,none⟩)) hHeld ?_;simp only[Act.put,zh,zf,zg];refine j3 5 (some 103) (V.vd) rfl rfl (λwz hz=>by obtain⟨z0,z1⟩:=hz;unfold execOp;go_simp) hHeld ?_;simp only[Act.put,zh,zf,zg];refine ja 6 (some 104) (.pointer (some ⟨w.heap.size,2,none⟩)) hHeld ?_;simp only[Act.put,zh,zf,zg];refine j3 7 (some 105) (.int .i64 n.n) rfl rfl (λwz hz=>by obtain⟨z0,z1⟩:=hz;unfold execOp;go_simp) hHeld ?_;simp only[Act.put,zh,zf,zg]
  have hT2:(W6.drew.alloc (.cells #[.int .i64 n.n] 3)).cell? ⟨cb,0,none⟩=some V.vd∧(W6.drew.alloc (.cells #[.int .i64 n.n] 3)).cell? ⟨w.heap.size,2,none⟩=some (.int .i64 n.n):=⟨za (zl W6.drew _) hHeld.1,za (zl W6.drew _) hHeld.2⟩
  refine zV 8 (some 106) (.slice (some ⟨W6.heap.size,0,none⟩) 1 1) (W6.drew.alloc (.cells #[.int .i64 n.n] 3)) (by kernel_rfl) rfl rfl (by rfl) (by kernel_rfl) hT2 ?_;simp only[Act.put,zh,zf,zg];have hb67:Below W6.heap.size W6 (W6.drew.alloc (.cells #[.int .i64 n.n] 3)):=(zr (Below.refl _ W6)).trans (zl W6.drew _);have G7:=h6.keep hb67;have N7:=N6.below hb67 N6.lt;obtain⟨A8,C8,w8,hr8,hrow8,hg8,hw8⟩:=zX J2 (ty:=29) (W6.drew.alloc (.cells #[.int .i64 n.n] 3)) cb ((vU k n 1)).devs.length _ _ G7.devs (by have:=G7.has.lt;omega) (by have:=G7.few.2.2;omega) [.int .i64 n.n] rfl (by intro u hu;simp at hu;subst hu;rfl) W6.heap.size (zm.new_at rfl);obtain⟨G9,S9⟩:=G7.putDev (d:=n.n) (by rw[HDE.out];have:=HDL.out;omega) hg8 hrow8 hw8;have cb8h:=zy G7.has hg8 G7.own_ne.1;have N8:=zy N7 hg8 (λe=>HNO.out (.inr (.inl e)));have c08:=cb8h.cell 0;have n28:=N8.cell 2;simp only[vh,List.getElem?_toArray,List.getElem?_cons_zero,List.getElem?_cons_succ]at c08 n28
  have hT8:w8.cell? ⟨cb,0,none⟩=some V.vd∧w8.cell? ⟨w.heap.size,2,none⟩=some (.int .i64 n.n):=⟨c08,n28⟩
  refine zV 9 (some 107) (.slice A8 (((vU k n 1)).devs.length+1) C8) w8 (by kernel_rfl) rfl rfl (by rfl) (zW _ _ rfl rfl rfl hr8) hT8 ?_;simp only[Act.put,zh,zf,zg];refine zV 10 (some 108) (.pointer (some ⟨cb,0,none⟩)) w8 (by kernel_rfl) rfl rfl (by rfl) rfl hT8 ?_;simp only[Act.put,zh,zf,zg];refine zV 11 (some 109) (.pointer (some ⟨cb,0,none⟩)) w8 (by kernel_rfl) rfl rfl (by rfl) rfl hT8 ?_;simp only[Act.put,zh,zf,zg];refine zV 12 (some 110) (.pointer (some ⟨cb,0,none⟩)) w8 (by kernel_rfl) rfl rfl (by rfl) rfl hT8 ?_;simp only[Act.put,zh,zf,zg];have q8:=cb8h.cell 0;have f8:=cb8h.free 0;have l8:=cb8h.lt;simp only[vh,List.getElem?_toArray,List.getElem?_cons_zero]at q8;refine qC 13 none (w8.setCell ⟨cb,0,none⟩ (.slice A8 (((vU k n 1)).devs.length+1) C8)) (by kernel_rfl) rfl rfl (by rfl) (by unfold execOp;go_simp) (by kernel_rfl) ?_;simp only[Act.put];have hs9:Sp (V.own cb) W6 (RV.own { V with vd:= .slice A8 (((vU k n 1)).devs.length+1) C8 } cb) (w8.setCell ⟨cb,0,none⟩ (.slice A8 (((vU k n 1)).devs.length+1) C8)):=Sp.left hb67 S9;have N9:=N8.other (p:=⟨cb,0,none⟩) (show w.heap.size≠cb from hncb) (.slice A8 (((vU k n 1)).devs.length+1) C8);generalize w8.setCell ⟨cb,0,none⟩ (.slice A8 (((vU k n 1)).devs.length+1) C8)=W9 at *;clear hT8 hT2 hHeld q8 f8 l8 hr8 hrow8 hg8 hw8 cb8h G7 N7 N8 c08 n28 S9 hb67;have T9a:=T6.onl hs9.only HNT.out;have hs9':=hs6.trans hs9;have HD4:=ze (show(vU k n 1).parts=(xO k n 1).parts from rfl);have e0:=G9.has.cell 0;have ll:=G9.has.lt;have m0:=N9.cell 0;have ml:=N9.lt;have t2:=T9a.cell 2;have tf2:=T9a.free 2;have tl:=T9a.lt;simp only[vh,List.getElem?_toArray,List.getElem?_cons_zero,List.getElem?_cons_succ]at e0 m0 t2;have hdk:=gL G9 k.devs.length
  obtain⟨PD,hPD⟩:∃PD,PD=VJ (xO k n 1).parts k.devs.length:=⟨_,rfl⟩
  rw[show({ vU k n 1 with devs:=(vU k n 1).devs++ [n.n] }:Rk).parts=(xO k n 1).parts from rfl,←hPD]at hdk;have HPD:=ze hPD
  obtain⟨DL,hDLe⟩:∃DL,DL=(vU k n 1).devs.length:=⟨_,rfl⟩
  have hDL1:DL=k.devs.length:=by rw[hDLe,HDE.out]
  have HDL1:=ze hDL1;rw[←hDL1]at hdk;rw[←hDLe]at e0;have hDLb:DL≤10000:=by rw[hDL1];exact HDL.out
  have HNT9:=ze (show ¬RV.own { V with vd:= .slice A8 ((vU k n 1).devs.length+1) C8 } cb W2.heap.size from λq=>(hs9.new _ q).elim HNT.out (λz=>absurd T6.lt (Nat.not_lt.2 z)))
  obtain⟨W10,hW10⟩:∃W10,W10=W9.setCell ⟨W2.heap.size,2,none⟩ (.int .i64 (PD:Nat)):=⟨_,rfl⟩
  have HW10:=ze hW10;have h10:=G9.other (q:=⟨W2.heap.size,2,none⟩) HNT9.out HET.out (.int .i64 (PD:Nat));have T9:=T9a.putP 2 (.int .i64 (PD:Nat));have hs10:=Vy hs9' (p:=⟨W2.heap.size,2,none⟩) HTW.out (.int .i64 (PD:Nat));rw[←hW10]at h10 T9 hs10;replace h10:zZ E W10 cb { V with vd:= .slice A8 ((vU k n 1).devs.length+1) C8 } (xO k n 1):=h10;replace T9:zm W10 W2.heap.size 95 #[.string (bs n.s),.string (bs n.op),.int .i64 (PD:Nat),.slice none 0 0]:=T9;have c5r:=h10.has.cell 5;simp only[vh,List.getElem?_toArray,List.getElem?_cons_zero,List.getElem?_cons_succ]at c5r;clear hW10 hPD hDLe hs9 hs6 T6 h6 N6 c0r n2r hDL1 hs9' T9a G9 N9
  go_wp2_with (first
   |((go_at_call 41)
     refine hdk.mono ?_;rintro e Wx ⟨rfl,eWx⟩;(subst eWx)))
  rw[←HW10.out];clear e0 ll m0 ml t2 tf2 tl hdk;refine jp (S:=λwz=>wz.cell? ⟨cb,5,none⟩=some V.vt∧zm wz W2.heap.size 95 #[.string (bs n.s),.string (bs n.op),.int .i64 (PD:Nat),.slice none 0 0]) 10 (by kernel_rfl) (⟨c5r,T9⟩) (λhHeld=>?_);refine ja 0 (some 218) (.pointer (some ⟨cb,0,none⟩)) hHeld ?_;simp only[Act.put,zh,zf,zg];refine ja 1 (some 219) (.pointer (some ⟨cb,0,none⟩)) hHeld ?_;simp only[Act.put,zh,zf,zg];refine ja 2 (some 220) (.pointer (some ⟨cb,0,none⟩)) hHeld ?_;simp only[Act.put,zh,zf,zg];refine ja 3 (some 221) (.pointer (some ⟨cb,5,none⟩)) hHeld ?_;simp only[Act.put,zh,zf,zg];refine j3 4 (some 222) (V.vt) rfl rfl (λwz hz=>by obtain⟨z0,z1⟩:=hz;unfold execOp;go_simp) hHeld ?_;simp only[Act.put,zh,zf,zg];refine j3 5 (some 223) (.agg #[.string (bs n.s),.string (bs n.op),.int .i64 (PD:Nat),.slice none 0 0]) rfl rfl (λwz hz=>vH _ rfl W2.heap.size rfl wz hz.2) hHeld ?_;simp only[Act.put,zh,zf,zg]
  have hT2:(W10.drew.alloc (.cells #[.string (bs n.s),.string (bs n.op),.int .i64 (PD:Nat),.slice none 0 0] 95)).cell? ⟨cb,5,none⟩=some V.vt∧zm (W10.drew.alloc (.cells #[.string (bs n.s),.string (bs n.op),.int .i64 (PD:Nat),.slice none 0 0] 95)) W2.heap.size 95 #[.string (bs n.s),.string (bs n.op),.int .i64 (PD:Nat),.slice none 0 0]:=⟨za (zl W10.drew _) hHeld.1,hHeld.2.alloc _⟩
  refine zV 6 (some 224) (.slice (some ⟨W10.heap.size,0,none⟩) 1 1) (W10.drew.alloc (.cells #[.string (bs n.s),.string (bs n.op),.int .i64 (PD:Nat),.slice none 0 0] 95)) (by kernel_rfl) rfl rfl (by rfl) (by kernel_rfl) hT2 ?_;simp only[Act.put,zh,zf,zg];have hb67:Below W10.heap.size W10 (W10.drew.alloc (.cells #[.string (bs n.s),.string (bs n.op),.int .i64 (PD:Nat),.slice none 0 0] 95)):=(zr (Below.refl _ W10)).trans (zl W10.drew _);have G7:=h10.keep hb67;obtain⟨us,e1,hpr,hpi⟩:=G7.thgs;obtain⟨A8,C8,w8,hr8,hrow8,hg8,hw8⟩:=zX JX (ty:=59) (W10.drew.alloc (.cells #[.string (bs n.s),.string (bs n.op),.int .i64 (PD:Nat),.slice none 0 0] 95)) cb ((xO k n 1)).things.length _ _ hpr (by have:=G7.has.lt;omega) (by have:=G7.few.2.1;omega) #[.string (bs n.s),.string (bs n.op),.int .i64 (PD:Nat),.slice none 0 0].toList rfl (by intro u hu;simp at hu;rcases hu with rfl|rfl|rfl|rfl<;>rfl) W10.heap.size (zm.new_at rfl);obtain⟨GT,ST⟩:=G7.putThing (p:=⟨n.s,n.op,(PD:Nat),[]⟩) (u:= .slice none 0 0) (by rw[HTE.out];have:=HTL.out;omega) e1 hpi hpr ⟨none,0,rfl,Nat.le_refl _,by unfold maxLen;omega,.inl rfl⟩ hg8 hrow8 hw8;have cb8h:=zy G7.has hg8 G7.own_ne.2.2;have T8:=zy hT2.2 hg8 (λe=>HNT.out (.inr (.inr (.inr e))));have c58:=cb8h.cell 5;simp only[vh,List.getElem?_toArray,List.getElem?_cons_zero,List.getElem?_cons_succ]at c58
  have hT8:w8.cell? ⟨cb,5,none⟩=some V.vt∧zm w8 W2.heap.size 95 #[.string (bs n.s),.string (bs n.op),.int .i64 (PD:Nat),.slice none 0 0]:=⟨c58,T8⟩
  refine zV 7 (some 225) (.slice A8 (((xO k n 1)).things.length+1) C8) w8 (by kernel_rfl) rfl rfl (by rfl) (zW _ _ rfl rfl rfl hr8) hT8 ?_;simp only[Act.put,zh,zf,zg];refine zV 8 (some 226) (.pointer (some ⟨cb,0,none⟩)) w8 (by kernel_rfl) rfl rfl (by rfl) rfl hT8 ?_;simp only[Act.put,zh,zf,zg];refine zV 9 (some 227) (.pointer (some ⟨cb,5,none⟩)) w8 (by kernel_rfl) rfl rfl (by rfl) rfl hT8 ?_;simp only[Act.put,zh,zf,zg];have q8:=cb8h.cell 5;have f8:=cb8h.free 5;have l8:=cb8h.lt;simp only[vh,List.getElem?_toArray,List.getElem?_cons_zero,List.getElem?_cons_succ]at q8;refine qC 10 none (w8.setCell ⟨cb,5,none⟩ (.slice A8 (((xO k n 1)).things.length+1) C8)) (by kernel_rfl) rfl rfl (by rfl) (by unfold execOp;go_simp) (by kernel_rfl) ?_;simp only[Act.put];have hsT:=Sp.left hb67 ST;clear hT8 hT2 hHeld q8 f8 l8 hr8 hrow8 hg8 hw8 cb8h G7 T8 c58 ST hb67 hpi hpr e1;refine bodyPost_end (results_none rfl _ _ _) rfl ?_;rw[HR.out];refine⟨rfl,_,?_,Sp.left HB1.out (hs10.trans hsT)⟩;have q:=GT.mono (E':=λg=>E g∨w.heap.size≤g) (λg _ _ e=> .inl e);rw[HPD.out]at q;exact q
 |false =>
  have hcc:cc=decide (2048<n.n):=by rw[HCC.out,hls];rfl
  rw[hcc]at hf6
  go_wp2_with (first
   |((go_at_call 19)
     refine hf6.mono ?_;(rintro e W6 ⟨rfl,h6,s6⟩)))
  have N6:=N5.onl s6.only HNO.out;have T6:=T5.onl s6.only HNT.out;have hs6:=hs5.trans s6;have c0r:=h6.has.cell 0;have n2r:=N6.cell 2;simp only[vh,List.getElem?_toArray,List.getElem?_cons_zero,List.getElem?_cons_succ]at c0r n2r;clear m0 m2 m3 ml hf6 hs5 N5 T5 h5 s6 hls hcc HCC;refine jp (S:=λwz=>wz.cell? ⟨cb,0,none⟩=some V.vd∧wz.cell? ⟨w.heap.size,2,none⟩=some (.int .i64 n.n)) 13 (by kernel_rfl) (⟨c0r,n2r⟩) (λhHeld=>?_);refine ja 0 (some 98) (.pointer (some ⟨cb,0,none⟩)) hHeld ?_;simp only[Act.put,zh,zf,zg];refine ja 1 (some 99) (.pointer (some ⟨cb,0,none⟩)) hHeld ?_;simp only[Act.put,zh,zf,zg];refine ja 2 (some 100) (.pointer (some ⟨cb,0,none⟩)) hHeld ?_;simp only[Act.put,zh,zf,zg];refine ja 3 (some 101) (.pointer (some ⟨cb,0,none⟩)) hHeld ?_;simp only[Act.put,zh,zf,zg];refine ja 4 (some 102) (.pointer (some ⟨cb,0,none⟩)) hHeld ?_;simp only[Act.put,zh,zf,zg];refine j3 5 (some 103) (V.vd) rfl rfl (λwz hz=>by obtain⟨z0,z1⟩:=hz;unfold execOp;go_simp) hHeld ?_;simp only[Act.put,zh,zf,zg];refine ja 6 (some 104) (.pointer (some ⟨w.heap.size,2,none⟩)) hHeld ?_;simp only[Act.put,zh,zf,zg];refine j3 7 (some 105) (.int .i64 n.n) rfl rfl (λwz hz=>by obtain⟨z0,z1⟩:=hz;unfold execOp;go_simp) hHeld ?_;simp only[Act.put,zh,zf,zg]
  have hT2:(W6.drew.alloc (.cells #[.int .i64 n.n] 3)).cell? ⟨cb,0,none⟩=some V.vd∧(W6.drew.alloc (.cells #[.int .i64 n.n] 3)).cell? ⟨w.heap.size,2,none⟩=some (.int .i64 n.n):=⟨za (zl W6.drew _) hHeld.1,za (zl W6.drew _) hHeld.2⟩
  refine zV 8 (some 106) (.slice (some ⟨W6.heap.size,0,none⟩) 1 1) (W6.drew.alloc (.cells #[.int .i64 n.n] 3)) (by kernel_rfl) rfl rfl (by rfl) (by kernel_rfl) hT2 ?_;simp only[Act.put,zh,zf,zg];have hb67:Below W6.heap.size W6 (W6.drew.alloc (.cells #[.int .i64 n.n] 3)):=(zr (Below.refl _ W6)).trans (zl W6.drew _);have G7:=h6.keep hb67;have N7:=N6.below hb67 N6.lt;obtain⟨A8,C8,w8,hr8,hrow8,hg8,hw8⟩:=zX J2 (ty:=29) (W6.drew.alloc (.cells #[.int .i64 n.n] 3)) cb ((vU k n 1)).devs.length _ _ G7.devs (by have:=G7.has.lt;omega) (by have:=G7.few.2.2;omega) [.int .i64 n.n] rfl (by intro u hu;simp at hu;subst hu;rfl) W6.heap.size (zm.new_at rfl);obtain⟨G9,S9⟩:=G7.putDev (d:=n.n) (by rw[HDE.out];have:=HDL.out;omega) hg8 hrow8 hw8;have cb8h:=zy G7.has hg8 G7.own_ne.1;have N8:=zy N7 hg8 (λe=>HNO.out (.inr (.inl e)));have c08:=cb8h.cell 0;have n28:=N8.cell 2;simp only[vh,List.getElem?_toArray,List.getElem?_cons_zero,List.getElem?_cons_succ]at c08 n28
  have hT8:w8.cell? ⟨cb,0,none⟩=some V.vd∧w8.cell? ⟨w.heap.size,2,none⟩=some (.int .i64 n.n):=⟨c08,n28⟩
  refine zV 9 (some 107) (.slice A8 (((vU k n 1)).devs.length+1) C8) w8 (by kernel_rfl) rfl rfl (by rfl) (zW _ _ rfl rfl rfl hr8) hT8 ?_;simp only[Act.put,zh,zf,zg];refine zV 10 (some 108) (.pointer (some ⟨cb,0,none⟩)) w8 (by kernel_rfl) rfl rfl (by rfl) rfl hT8 ?_;simp only[Act.put,zh,zf,zg];refine zV 11 (some 109) (.pointer (some ⟨cb,0,none⟩)) w8 (by kernel_rfl) rfl rfl (by rfl) rfl hT8 ?_;simp only[Act.put,zh,zf,zg];refine zV 12 (some 110) (.pointer (some ⟨cb,0,none⟩)) w8 (by kernel_rfl) rfl rfl (by rfl) rfl hT8 ?_;simp only[Act.put,zh,zf,zg];have q8:=cb8h.cell 0;have f8:=cb8h.free 0;have l8:=cb8h.lt;simp only[vh,List.getElem?_toArray,List.getElem?_cons_zero]at q8;refine qC 13 none (w8.setCell ⟨cb,0,none⟩ (.slice A8 (((vU k n 1)).devs.length+1) C8)) (by kernel_rfl) rfl rfl (by rfl) (by unfold execOp;go_simp) (by kernel_rfl) ?_;simp only[Act.put];have hs9:Sp (V.own cb) W6 (RV.own { V with vd:= .slice A8 (((vU k n 1)).devs.length+1) C8 } cb) (w8.setCell ⟨cb,0,none⟩ (.slice A8 (((vU k n 1)).devs.length+1) C8)):=Sp.left hb67 S9;have N9:=N8.other (p:=⟨cb,0,none⟩) (show w.heap.size≠cb from hncb) (.slice A8 (((vU k n 1)).devs.length+1) C8);generalize w8.setCell ⟨cb,0,none⟩ (.slice A8 (((vU k n 1)).devs.length+1) C8)=W9 at *;clear hT8 hT2 hHeld q8 f8 l8 hr8 hrow8 hg8 hw8 cb8h G7 N7 N8 c08 n28 S9 hb67;have T9a:=T6.onl hs9.only HNT.out;have hs9':=hs6.trans hs9;have HD4:=ze (show(vU k n 1).parts=(xO k n 1).parts from rfl);have e0:=G9.has.cell 0;have ll:=G9.has.lt;have m0:=N9.cell 0;have ml:=N9.lt;have t2:=T9a.cell 2;have tf2:=T9a.free 2;have tl:=T9a.lt;simp only[vh,List.getElem?_toArray,List.getElem?_cons_zero,List.getElem?_cons_succ]at e0 m0 t2;have hdk:=gL G9 k.devs.length
  obtain⟨PD,hPD⟩:∃PD,PD=VJ (xO k n 1).parts k.devs.length:=⟨_,rfl⟩
  rw[show({ vU k n 1 with devs:=(vU k n 1).devs++ [n.n] }:Rk).parts=(xO k n 1).parts from rfl,←hPD]at hdk;have HPD:=ze hPD
  obtain⟨DL,hDLe⟩:∃DL,DL=(vU k n 1).devs.length:=⟨_,rfl⟩
  have hDL1:DL=k.devs.length:=by rw[hDLe,HDE.out]
  have HDL1:=ze hDL1;rw[←hDL1]at hdk;rw[←hDLe]at e0;have hDLb:DL≤10000:=by rw[hDL1];exact HDL.out
  have HNT9:=ze (show ¬RV.own { V with vd:= .slice A8 ((vU k n 1).devs.length+1) C8 } cb W2.heap.size from λq=>(hs9.new _ q).elim HNT.out (λz=>absurd T6.lt (Nat.not_lt.2 z)))
  obtain⟨W10,hW10⟩:∃W10,W10=W9.setCell ⟨W2.heap.size,2,none⟩ (.int .i64 (PD:Nat)):=⟨_,rfl⟩
  have HW10:=ze hW10;have h10:=G9.other (q:=⟨W2.heap.size,2,none⟩) HNT9.out HET.out (.int .i64 (PD:Nat));have T9:=T9a.putP 2 (.int .i64 (PD:Nat));have hs10:=Vy hs9' (p:=⟨W2.heap.size,2,none⟩) HTW.out (.int .i64 (PD:Nat));rw[←hW10]at h10 T9 hs10;replace h10:zZ E W10 cb { V with vd:= .slice A8 ((vU k n 1).devs.length+1) C8 } (xO k n 1):=h10;replace T9:zm W10 W2.heap.size 95 #[.string (bs n.s),.string (bs n.op),.int .i64 (PD:Nat),.slice none 0 0]:=T9;have c5r:=h10.has.cell 5;simp only[vh,List.getElem?_toArray,List.getElem?_cons_zero,List.getElem?_cons_succ]at c5r;clear hW10 hPD hDLe hs9 hs6 T6 h6 N6 c0r n2r hDL1 hs9' T9a G9 N9
  go_wp2_with (first
   |((go_at_call 41)
     refine hdk.mono ?_;rintro e Wx ⟨rfl,eWx⟩;(subst eWx)))
  rw[←HW10.out];clear e0 ll m0 ml t2 tf2 tl hdk;refine jp (S:=λwz=>wz.cell? ⟨cb,5,none⟩=some V.vt∧zm wz W2.heap.size 95 #[.string (bs n.s),.string (bs n.op),.int .i64 (PD:Nat),.slice none 0 0]) 10 (by kernel_rfl) (⟨c5r,T9⟩) (λhHeld=>?_);refine ja 0 (some 218) (.pointer (some ⟨cb,0,none⟩)) hHeld ?_;simp only[Act.put,zh,zf,zg];refine ja 1 (some 219) (.pointer (some ⟨cb,0,none⟩)) hHeld ?_;simp only[Act.put,zh,zf,zg];refine ja 2 (some 220) (.pointer (some ⟨cb,0,none⟩)) hHeld ?_;simp only[Act.put,zh,zf,zg];refine ja 3 (some 221) (.pointer (some ⟨cb,5,none⟩)) hHeld ?_;simp only[Act.put,zh,zf,zg];refine j3 4 (some 222) (V.vt) rfl rfl (λwz hz=>by obtain⟨z0,z1⟩:=hz;unfold execOp;go_simp) hHeld ?_;simp only[Act.put,zh,zf,zg];refine j3 5 (some 223) (.agg #[.string (bs n.s),.string (bs n.op),.int .i64 (PD:Nat),.slice none 0 0]) rfl rfl (λwz hz=>vH _ rfl W2.heap.size rfl wz hz.2) hHeld ?_;simp only[Act.put,zh,zf,zg]
  have hT2:(W10.drew.alloc (.cells #[.string (bs n.s),.string (bs n.op),.int .i64 (PD:Nat),.slice none 0 0] 95)).cell? ⟨cb,5,none⟩=some V.vt∧zm (W10.drew.alloc (.cells #[.string (bs n.s),.string (bs n.op),.int .i64 (PD:Nat),.slice none 0 0] 95)) W2.heap.size 95 #[.string (bs n.s),.string (bs n.op),.int .i64 (PD:Nat),.slice none 0 0]:=⟨za (zl W10.drew _) hHeld.1,hHeld.2.alloc _⟩
  refine zV 6 (some 224) (.slice (some ⟨W10.heap.size,0,none⟩) 1 1) (W10.drew.alloc (.cells #[.string (bs n.s),.string (bs n.op),.int .i64 (PD:Nat),.slice none 0 0] 95)) (by kernel_rfl) rfl rfl (by rfl) (by kernel_rfl) hT2 ?_;simp only[Act.put,zh,zf,zg];have hb67:Below W10.heap.size W10 (W10.drew.alloc (.cells #[.string (bs n.s),.string (bs n.op),.int .i64 (PD:Nat),.slice none 0 0] 95)):=(zr (Below.refl _ W10)).trans (zl W10.drew _);have G7:=h10.keep hb67;obtain⟨us,e1,hpr,hpi⟩:=G7.thgs;obtain⟨A8,C8,w8,hr8,hrow8,hg8,hw8⟩:=zX JX (ty:=59) (W10.drew.alloc (.cells #[.string (bs n.s),.string (bs n.op),.int .i64 (PD:Nat),.slice none 0 0] 95)) cb ((xO k n 1)).things.length _ _ hpr (by have:=G7.has.lt;omega) (by have:=G7.few.2.1;omega) #[.string (bs n.s),.string (bs n.op),.int .i64 (PD:Nat),.slice none 0 0].toList rfl (by intro u hu;simp at hu;rcases hu with rfl|rfl|rfl|rfl<;>rfl) W10.heap.size (zm.new_at rfl);obtain⟨GT,ST⟩:=G7.putThing (p:=⟨n.s,n.op,(PD:Nat),[]⟩) (u:= .slice none 0 0) (by rw[HTE.out];have:=HTL.out;omega) e1 hpi hpr ⟨none,0,rfl,Nat.le_refl _,by unfold maxLen;omega,.inl rfl⟩ hg8 hrow8 hw8;have cb8h:=zy G7.has hg8 G7.own_ne.2.2;have T8:=zy hT2.2 hg8 (λe=>HNT.out (.inr (.inr (.inr e))));have c58:=cb8h.cell 5;simp only[vh,List.getElem?_toArray,List.getElem?_cons_zero,List.getElem?_cons_succ]at c58
  have hT8:w8.cell? ⟨cb,5,none⟩=some V.vt∧zm w8 W2.heap.size 95 #[.string (bs n.s),.string (bs n.op),.int .i64 (PD:Nat),.slice none 0 0]:=⟨c58,T8⟩
  refine zV 7 (some 225) (.slice A8 (((xO k n 1)).things.length+1) C8) w8 (by kernel_rfl) rfl rfl (by rfl) (zW _ _ rfl rfl rfl hr8) hT8 ?_;simp only[Act.put,zh,zf,zg];refine zV 8 (some 226) (.pointer (some ⟨cb,0,none⟩)) w8 (by kernel_rfl) rfl rfl (by rfl) rfl hT8 ?_;simp only[Act.put,zh,zf,zg];refine zV 9 (some 227) (.pointer (some ⟨cb,5,none⟩)) w8 (by kernel_rfl) rfl rfl (by rfl) rfl hT8 ?_;simp only[Act.put,zh,zf,zg];have q8:=cb8h.cell 5;have f8:=cb8h.free 5;have l8:=cb8h.lt;simp only[vh,List.getElem?_toArray,List.getElem?_cons_zero,List.getElem?_cons_succ]at q8;refine qC 10 none (w8.setCell ⟨cb,5,none⟩ (.slice A8 (((xO k n 1)).things.length+1) C8)) (by kernel_rfl) rfl rfl (by rfl) (by unfold execOp;go_simp) (by kernel_rfl) ?_;simp only[Act.put];have hsT:=Sp.left hb67 ST;clear hT8 hT2 hHeld q8 f8 l8 hr8 hrow8 hg8 hw8 cb8h G7 T8 c58 ST hb67 hpi hpr e1;refine bodyPost_end (results_none rfl _ _ _) rfl ?_;rw[HR.out];refine⟨rfl,_,?_,Sp.left HB1.out (hs10.trans hsT)⟩;have q:=GT.mono (E':=λg=>E g∨w.heap.size≤g) (λg _ _ e=> .inl e);rw[HPD.out]at q;exact q
theorem kS{E:Nat→Prop}{w:World}{cb:Nat}{V:RV}{k:Rk}(h:zZ E w cb V k)(hE:∀g,w.heap.size≤g→¬E g)(n:Nd)(A:Option Addr)(L C:Nat)(ho:n.op=zq)(hf:gQ k):Calls Tryz.prog 18 #[.pointer (some ⟨cb,0,none⟩),.agg #[.string (bs n.op),.string (bs n.s),.int .i64 n.n,.int .i64 n.a,.slice A L C]] w (RSt E w cb V (Zm k n)):=by
 obtain⟨W1,hW1⟩:∃W1,W1=w.alloc (.cells #[.string (bs n.op),.string (bs n.s),.int .i64 n.n,.int .i64 n.a,.slice A L C] 24):=⟨_,rfl⟩
 have hb1:Below w.heap.size w W1:=by rw[hW1];exact zl w _
 have N1:zm W1 w.heap.size 24 #[.string (bs n.op),.string (bs n.s),.int .i64 n.n,.int .i64 n.a,.slice A L C]:=by rw[hW1];exact zm.new w _ _
 have h1:zZ E W1 cb V k:=h.keep hb1;have HW:=ze hW1;have HNO:=ze (show ¬V.own cb w.heap.size from λq=>absurd (h.low q).2 (Nat.lt_irrefl _));have hot:=zp n.op;have f0:(n.op== [101,120,112,111,114,116])=false:=by rw[ho];decide
 have f1:(n.op== [100,101,118,105,99,101])=false:=by rw[ho];decide
 have f2:(n.op== [106,111,117,114,110,97,108])=true:=by rw[ho];decide
 obtain⟨FD,hFD⟩:∃FD,FD=QJ k.things n.s:=⟨_,rfl⟩
 have HFD:=ze hFD
 obtain⟨DV,hDV⟩:∃DV,DV=k.devices:=⟨_,rfl⟩
 have hdv:=hf.de;rw[←hDV]at hdv;obtain⟨hdv0,hdv1⟩:=hdv;have HDV:=ze hDV;have HDL:=ze hf.dl;have HTL:=ze hf.tl;have HJO:=ze hf.jo;have nn0:=N1.cell 0;have n1r:=N1.cell 1;have n3r:=N1.cell 3;have nl:=N1.lt;simp only[qH,qG,qI]at nn0 n1r n3r;have HB1:=ze hb1
 obtain⟨R,hR⟩:∃R,R=Zm k n:=⟨_,rfl⟩
 have HR:=ze hR;rw[←hR];have hncb:¬w.heap.size=cb:=λe=>HNO.out (.inl e)
 have hncb2:¬cb=w.heap.size:=λe=>HNO.out (.inl e.symm)
 clear hW1 hDV hf ho hR hb1 hFD;go_enter Tryz.func18,Tryz.ntmps18
 go_wp2_with (first
  |((with_reducible refine zi 6 rfl ?_)
    rw[←HW.out];(refine zd (some 6) (.pointer (some ⟨w.heap.size,0,none⟩)) rfl (by rfl) (by unfold execOp;go_simp) ?_)))
 refine wp_region_held_drew (S:=λwz=>wz.cell? ⟨w.heap.size,1,none⟩=some (.string (bs n.s))∧wz.cell? ⟨w.heap.size,3,none⟩=some (.int .i64 n.a)) (by kernel_rfl) (⟨n1r,n3r⟩) (λhHeld=>?_);refine zw 0 (some 47) (.pointer (some ⟨cb,0,none⟩)) hHeld ?_;simp only[Act.put,zh,zf,zg];refine zw 1 (some 48) (.pointer (some ⟨cb,0,none⟩)) hHeld ?_;simp only[Act.put,zh,zf,zg];refine zw 2 (some 49) (.pointer (some ⟨w.heap.size,1,none⟩)) hHeld ?_;simp only[Act.put,zh,zf,zg];refine zD 3 (some 50) (.string (bs n.s)) rfl rfl (λwz hz=>by obtain⟨z0,z1⟩:=hz;unfold execOp;go_simp) hHeld ?_;simp only[Act.put,zh,zf,zg];refine zw 6 (some 53) (.pointer (some ⟨w.heap.size,3,none⟩)) hHeld ?_;simp only[Act.put,zh,zf,zg];refine zD 7 (some 54) (.int .i64 n.a) rfl rfl (λwz hz=>by obtain⟨z0,z1⟩:=hz;unfold execOp;go_simp) hHeld ?_;simp only[Act.put,zh,zf,zg];refine qY 4 (some 51) 40 #[.pointer (some ⟨cb,0,none⟩),.string (bs n.s)] (by kernel_rfl) rfl rfl (by rfl) (by kernel_rfl) (Qw (h1.keep (Below.refl _ W1).drew) n.s) ?_;rintro e Wf ⟨rfl,eWf⟩;rw[←HFD.out];refine⟨_,rfl,by rw[eWf];exact⟨za (Below.refl _ W1).drew n1r,za (Below.refl _ W1).drew n3r⟩,?_⟩;simp only[Act.put,zh,zf,zg];have hbf:Below W1.heap.size W1 Wf:=by rw[eWf];exact(Below.refl _ W1).drew
 clear eWf hHeld
 have hHeld:Wf.cell? ⟨w.heap.size,1,none⟩=some (.string (bs n.s))∧Wf.cell? ⟨w.heap.size,3,none⟩=some (.int .i64 n.a):=⟨za hbf n1r,za hbf n3r⟩
 refine zD 5 (some 52) (.bool (decide (0≤FD))) rfl rfl (λwz _=>Qd 0 _ rfl FD rfl (decide (0≤FD)) rfl wz) hHeld ?_;simp only[Act.put,zh,zf,zg];refine qY 8 (some 55) 19 #[.pointer (some ⟨cb,0,none⟩),.bool (decide (0≤FD)),.int .i64 132,.int .i64 n.a] (by kernel_rfl) rfl rfl (by rfl) (by kernel_rfl) (qk (h1.keep hbf) (decide (0≤FD)) 132 n.a) ?_;rintro e W2 ⟨rfl,h2',s2'⟩;have s2:Sp (V.own cb) W1 (V.own cb) W2:=Sp.left hbf s2'
 have h2:zZ E W2 cb V (rh k n):=by
  unfold rh;rw[←HFD.out];exact h2'
 have N2:=N1.onl s2.only HNO.out;refine⟨_,rfl,⟨by have q:=N2.cell 1;exact q,by have q:=N2.cell 3;exact q⟩,?_⟩;simp only[Act.put,zh,zf,zg];refine wpAnyH_done (by kernel_rfl) ?_ _;have HNT:=ze (show ¬V.own cb W2.heap.size from λq=>absurd (h2.low q).2 (Nat.lt_irrefl _));have HTW:=ze (show W1.heap.size≤W2.heap.size from s2.size);have HET:=ze (hE W2.heap.size (by have q1:=HB1.out.size;have q2:=s2.size;omega));have eD:(rh k n).devices=DV:=by unfold rh;rw[(jy _ _ _ _).2.2.1,HDV.out]
 have HDE:=ze (show(vU k n 256).devs.length=k.devs.length by unfold vU QR;rw[(jx _ _ _ _).1,(jx _ _ _ _).1];unfold Zh rh;show(zA k _ _ _).devs.length=_;rw[(jx _ _ _ _).1]);have HTE:=ze (show(KH k n).things.length=k.things.length by unfold KH rj2 Up;show(zA _ _ _ _).things.length=_;rw[(jx _ _ _ _).2];unfold xO vU QR;show(zA (zA _ _ _ _) _ _ _).things.length=_;rw[(jx _ _ _ _).2,(jx _ _ _ _).2];unfold Zh rh;show(zA k _ _ _).things.length=_;rw[(jx _ _ _ _).2])
 obtain⟨W4,hW4⟩:∃W4,W4=(W2.setCell ⟨cb,8,none⟩ (.int .i64 (DV+1))).alloc (.cells #[.string (bs n.s),.string (bs n.op),.int .i64 0,.slice none 0 0] 95):=⟨_,rfl⟩
 have HW4:=ze hW4;obtain⟨h4',s4'⟩:=h2.put (Zh k n) 8 (.int .i64 (DV+1)) (by unfold Zh;rw[eD];rfl) rfl rfl rfl;have h4:=h4'.alloc (.cells #[.string (bs n.s),.string (bs n.op),.int .i64 0,.slice none 0 0] 95);have hs4:=(s2.trans s4').trans (Sp.of (zl _ (.cells #[.string (bs n.s),.string (bs n.op),.int .i64 0,.slice none 0 0] 95)));have N4:=(N2.other (p:=⟨cb,8,none⟩) (show w.heap.size≠cb from hncb) (.int .i64 (DV+1))).alloc (.cells #[.string (bs n.s),.string (bs n.op),.int .i64 0,.slice none 0 0] 95);have T4:zm ((W2.setCell ⟨cb,8,none⟩ (.int .i64 (DV+1))).alloc (.cells #[.string (bs n.s),.string (bs n.op),.int .i64 0,.slice none 0 0] 95)) W2.heap.size 95 #[.string (bs n.s),.string (bs n.op),.int .i64 0,.slice none 0 0]:=zm.new_at (by simp);clear h4';rw[←hW4]at h4 hs4 N4 T4;have c82:=h2.has.cell 8;have f82:=h2.has.free 8;have l82:=h2.has.lt;have m0:=N2.cell 0;have m1:=N2.cell 1;have ml:=N2.lt;simp only[vh,List.getElem?_toArray,List.getElem?_cons_zero,List.getElem?_cons_succ]at c82 m0 m1;rw[eD]at c82;clear hHeld h2' s2' n1r n3r nn0 nl N1 h1 hW4 s4' hbf
 go_wp2
 rw[←HW4.out];clear c82 f82 l82 m0 m1 ml h2 N2 s2;have c84:=h4.has.cell 8;have n3r:=N4.cell 3;simp only[vh,List.getElem?_toArray,List.getElem?_cons_zero,List.getElem?_cons_succ]at c84 n3r;rw[show(Zh k n).devices=DV+1 from by unfold Zh;rw[eD]]at c84;refine wp_region_held_drew (S:=λwz=>wz.cell? ⟨cb,8,none⟩=some (.int .i64 (DV+1))∧wz.cell? ⟨w.heap.size,3,none⟩=some (.int .i64 n.a)) (by kernel_rfl) (⟨c84,n3r⟩) (λhHeld=>?_);refine zw 0 (some 73) (.pointer (some ⟨cb,0,none⟩)) hHeld ?_;simp only[Act.put,zh,zf,zg];refine zw 1 (some 74) (.pointer (some ⟨cb,0,none⟩)) hHeld ?_;simp only[Act.put,zh,zf,zg];refine zw 2 (some 75) (.pointer (some ⟨cb,0,none⟩)) hHeld ?_;simp only[Act.put,zh,zf,zg];refine zw 3 (some 76) (.pointer (some ⟨cb,8,none⟩)) hHeld ?_;simp only[Act.put,zh,zf,zg];refine zD 4 (some 77) (.int .i64 (DV+1)) rfl rfl (λwz hz=>by obtain⟨z0,z1⟩:=hz;unfold execOp;go_simp) hHeld ?_;simp only[Act.put,zh,zf,zg];refine zD 5 (some 78) (.bool (decide (8<DV+1))) rfl rfl (λwz _=>yQ 8 _ rfl _ rfl (decide (8<DV+1)) rfl wz) hHeld ?_;simp only[Act.put,zh,zf,zg];refine zw 6 (some 79) (.pointer (some ⟨w.heap.size,3,none⟩)) hHeld ?_;simp only[Act.put,zh,zf,zg];refine zD 7 (some 80) (.int .i64 n.a) rfl rfl (λwz hz=>by obtain⟨z0,z1⟩:=hz;unfold execOp;go_simp) hHeld ?_;simp only[Act.put,zh,zf,zg];refine qY 8 (some 81) 19 #[.pointer (some ⟨cb,0,none⟩),.bool (decide (8<DV+1)),.int .i64 137,.int .i64 n.a] (by kernel_rfl) rfl rfl (by rfl) (by kernel_rfl) (qk (h4.keep (Below.refl _ W4).drew) (decide (8<DV+1)) 137 n.a) ?_;rintro e W5 ⟨rfl,h5',s5'⟩;have s5:Sp (V.own cb) W4 (V.own cb) W5:=Sp.left (Below.refl _ W4).drew s5'
 have h5:zZ E W5 cb V (QR k n):=by
  unfold QR;rw[show(Zh k n).devices=DV+1 from by unfold Zh;rw[eD]];exact h5'
 have N5:=N4.onl s5.only HNO.out;have T5:=T4.onl s5.only HNT.out;refine⟨_,rfl,⟨by have q:=h5.has.cell 8;simp only[vh,List.getElem?_toArray,List.getElem?_cons_zero,List.getElem?_cons_succ]at q;rw[show(QR k n).devices=DV+1 from by unfold QR Zh;rw[(jy _ _ _ _).2.2.1,eD]]at q;exact q,by have q:=N5.cell 3;exact q⟩,?_⟩;simp only[Act.put,zh,zf,zg];refine wpAnyH_done (by kernel_rfl) ?_ _;have hs5:=hs4.trans s5;have m0:=N5.cell 0;have m2:=N5.cell 2;have m3:=N5.cell 3;have ml:=N5.lt;simp only[qH,qG,qI]at m0 m2 m3
 obtain⟨cc,hcc⟩:∃cc,cc=(decide (n.n<256)||decide (2048<n.n)):=⟨_,rfl⟩
 have hf6:=qk h5 cc 134 n.a;rw[show zA (QR k n) cc 134 n.a=vU k n 256 from by rw[hcc];rfl]at hf6;have HCC:=ze hcc;clear hHeld h5' s5' s5 c84 n3r h4 N4 T4 hs4 hcc eD;cases hls:decide (n.n<256)with
 |true =>
  have hcc:cc=true:=by rw[HCC.out,hls];rfl
  rw[hcc]at hf6
  go_wp2_with (first
   |((go_at_call 19)
     refine hf6.mono ?_;(rintro e W6 ⟨rfl,h6,s6⟩)))
  have N6:=N5.onl s6.only HNO.out;have T6:=T5.onl s6.only HNT.out;have hs6:=hs5.trans s6;have c0r:=h6.has.cell 0;have n2r:=N6.cell 2;simp only[vh,List.getElem?_toArray,List.getElem?_cons_zero,List.getElem?_cons_succ]at c0r n2r;clear m0 m2 m3 ml hf6 hs5 N5 T5 h5 s6 hls hcc HCC;refine jp (S:=λwz=>wz.cell? ⟨cb,0,none⟩=some V.vd∧wz.cell? ⟨w.heap.size,2,none⟩=some (.int .i64 n.n)) 13 (by kernel_rfl) (⟨c0r,n2r⟩) (λhHeld=>?_);refine ja 0 (some 98) (.pointer (some ⟨cb,0,none⟩)) hHeld ?_;simp only[Act.put,zh,zf,zg];refine ja 1 (some 99) (.pointer (some ⟨cb,0,none⟩)) hHeld ?_;simp only[Act.put,zh,zf,zg];refine ja 2 (some 100) (.pointer (some ⟨cb,0,none⟩)) hHeld ?_;simp only[Act.put,zh,zf,zg];refine ja 3 (some 101) (.pointer (some ⟨cb,0,none⟩)) hHeld ?_;simp only[Act.put,zh,zf,zg];refine ja 4 (some 102) (.pointer (some ⟨cb,0,none⟩)) hHeld ?_;simp only[Act.put,zh,zf,zg];refine j3 5 (some 103) (V.vd) rfl rfl (λwz hz=>by obtain⟨z0,z1⟩:=hz;unfold execOp;go_simp) hHeld ?_;simp only[Act.put,zh,zf,zg];refine ja 6 (some 104) (.pointer (some ⟨w.heap.size,2,none⟩)) hHeld ?_;simp only[Act.put,zh,zf,zg];refine j3 7 (some 105) (.int .i64 n.n) rfl rfl (λwz hz=>by obtain⟨z0,z1⟩:=hz;unfold execOp;go_simp) hHeld ?_;simp only[Act.put,zh,zf,zg]
  have hT2:(W6.drew.alloc (.cells #[.int .i64 n.n] 3)).cell? ⟨cb,0,none⟩=some V.vd∧(W6.drew.alloc (.cells #[.int .i64 n.n] 3)).cell? ⟨w.heap.size,2,none⟩=some (.int .i64 n.n):=⟨za (zl W6.drew _) hHeld.1,za (zl W6.drew _) hHeld.2⟩
  refine zV 8 (some 106) (.slice (some ⟨W6.heap.size,0,none⟩) 1 1) (W6.drew.alloc (.cells #[.int .i64 n.n] 3)) (by kernel_rfl) rfl rfl (by rfl) (by kernel_rfl) hT2 ?_;simp only[Act.put,zh,zf,zg];have hb67:Below W6.heap.size W6 (W6.drew.alloc (.cells #[.int .i64 n.n] 3)):=(zr (Below.refl _ W6)).trans (zl W6.drew _);have G7:=h6.keep hb67;have N7:=N6.below hb67 N6.lt;obtain⟨A8,C8,w8,hr8,hrow8,hg8,hw8⟩:=zX J2 (ty:=29) (W6.drew.alloc (.cells #[.int .i64 n.n] 3)) cb ((vU k n 256)).devs.length _ _ G7.devs (by have:=G7.has.lt;omega) (by have:=G7.few.2.2;omega) [.int .i64 n.n] rfl (by intro u hu;simp at hu;subst hu;rfl) W6.heap.size (zm.new_at rfl);obtain⟨G9,S9⟩:=G7.putDev (d:=n.n) (by rw[HDE.out];have:=HDL.out;omega) hg8 hrow8 hw8;have cb8h:=zy G7.has hg8 G7.own_ne.1;have N8:=zy N7 hg8 (λe=>HNO.out (.inr (.inl e)));have c08:=cb8h.cell 0;have n28:=N8.cell 2;simp only[vh,List.getElem?_toArray,List.getElem?_cons_zero,List.getElem?_cons_succ]at c08 n28
  have hT8:w8.cell? ⟨cb,0,none⟩=some V.vd∧w8.cell? ⟨w.heap.size,2,none⟩=some (.int .i64 n.n):=⟨c08,n28⟩
  refine zV 9 (some 107) (.slice A8 (((vU k n 256)).devs.length+1) C8) w8 (by kernel_rfl) rfl rfl (by rfl) (zW _ _ rfl rfl rfl hr8) hT8 ?_;simp only[Act.put,zh,zf,zg];refine zV 10 (some 108) (.pointer (some ⟨cb,0,none⟩)) w8 (by kernel_rfl) rfl rfl (by rfl) rfl hT8 ?_;simp only[Act.put,zh,zf,zg];refine zV 11 (some 109) (.pointer (some ⟨cb,0,none⟩)) w8 (by kernel_rfl) rfl rfl (by rfl) rfl hT8 ?_;simp only[Act.put,zh,zf,zg];refine zV 12 (some 110) (.pointer (some ⟨cb,0,none⟩)) w8 (by kernel_rfl) rfl rfl (by rfl) rfl hT8 ?_;simp only[Act.put,zh,zf,zg];have q8:=cb8h.cell 0;have f8:=cb8h.free 0;have l8:=cb8h.lt;simp only[vh,List.getElem?_toArray,List.getElem?_cons_zero]at q8;refine qC 13 none (w8.setCell ⟨cb,0,none⟩ (.slice A8 (((vU k n 256)).devs.length+1) C8)) (by kernel_rfl) rfl rfl (by rfl) (by unfold execOp;go_simp) (by kernel_rfl) ?_;simp only[Act.put];have hs9:Sp (V.own cb) W6 (RV.own { V with vd:= .slice A8 (((vU k n 256)).devs.length+1) C8 } cb) (w8.setCell ⟨cb,0,none⟩ (.slice A8 (((vU k n 256)).devs.length+1) C8)):=Sp.left hb67 S9;have N9:=N8.other (p:=⟨cb,0,none⟩) (show w.heap.size≠cb from hncb) (.slice A8 (((vU k n 256)).devs.length+1) C8);generalize w8.setCell ⟨cb,0,none⟩ (.slice A8 (((vU k n 256)).devs.length+1) C8)=W9 at *;clear hT8 hT2 hHeld q8 f8 l8 hr8 hrow8 hg8 hw8 cb8h G7 N7 N8 c08 n28 S9 hb67;have T9a:=T6.onl hs9.only HNT.out;have HNT9:=ze (show ¬RV.own { V with vd:= .slice A8 ((vU k n 256).devs.length+1) C8 } cb W2.heap.size from λq=>(hs9.new _ q).elim HNT.out (λz=>absurd T6.lt (Nat.not_lt.2 z)));have HNN9:=ze (show ¬RV.own { V with vd:= .slice A8 ((vU k n 256).devs.length+1) C8 } cb w.heap.size from λq=>(hs9.new _ q).elim HNO.out (λz=>absurd N6.lt (Nat.not_lt.2 z)));have hs9':=hs6.trans hs9;replace G9:zZ E W9 cb { V with vd:= .slice A8 ((vU k n 256).devs.length+1) C8 } (xO k n 256):=G9
  obtain⟨XJ,hXJ⟩:∃XJ,XJ=k.journals:=⟨_,rfl⟩
  have hxj:=HJO.out;rw[←hXJ]at hxj;obtain⟨hxj0,hxj1⟩:=hxj
  have eJ:(xO k n 256).journals=XJ:=by
   unfold xO vU QR;show(zA (zA _ _ _ _) _ _ _).journals=_;rw[(jy _ _ _ _).1,(jy _ _ _ _).1];unfold Zh rh;show(zA k _ _ _).journals=_;rw[(jy _ _ _ _).1,hXJ]
  obtain⟨DL,hDLe⟩:∃DL,DL=(vU k n 256).devs.length:=⟨_,rfl⟩
  have hDL1:DL=k.devs.length:=by rw[hDLe,HDE.out]
  have hDLb:DL≤10000:=by rw[hDL1];exact HDL.out
  have HDL1:=ze hDL1;have c6r:=G9.has.cell 6;have n3r:=N9.cell 3;have m0:=N9.cell 0;have ml:=N9.lt;simp only[vh,List.getElem?_toArray,List.getElem?_cons_zero,List.getElem?_cons_succ]at c6r n3r m0;rw[eJ]at c6r;have HDLe:=ze hDLe;clear hXJ hDLe hDL1 hs9 hs6 T6 h6 N6 c0r n2r
  go_wp2
  refine wp_region_held_drew (S:=λwz=>wz.cell? ⟨cb,6,none⟩=some (.int .i64 XJ)∧wz.cell? ⟨w.heap.size,3,none⟩=some (.int .i64 n.a)) (by kernel_rfl) (⟨c6r,n3r⟩) (λhHeld=>?_);refine zw 0 (some 114) (.pointer (some ⟨cb,0,none⟩)) hHeld ?_;simp only[Act.put,zh,zf,zg];refine zw 1 (some 115) (.pointer (some ⟨cb,0,none⟩)) hHeld ?_;simp only[Act.put,zh,zf,zg];refine zw 2 (some 116) (.pointer (some ⟨cb,0,none⟩)) hHeld ?_;simp only[Act.put,zh,zf,zg];refine zw 3 (some 117) (.pointer (some ⟨cb,6,none⟩)) hHeld ?_;simp only[Act.put,zh,zf,zg];refine zD 4 (some 118) (.int .i64 XJ) rfl rfl (λwz hz=>by obtain⟨z0,z1⟩:=hz;unfold execOp;go_simp) hHeld ?_;simp only[Act.put,zh,zf,zg];refine zD 5 (some 119) (.bool (decide (0<XJ))) rfl rfl (λwz _=>yQ 0 _ rfl _ rfl (decide (0<XJ)) rfl wz) hHeld ?_;simp only[Act.put,zh,zf,zg];refine zw 6 (some 120) (.pointer (some ⟨w.heap.size,3,none⟩)) hHeld ?_;simp only[Act.put,zh,zf,zg];refine zD 7 (some 121) (.int .i64 n.a) rfl rfl (λwz hz=>by obtain⟨z0,z1⟩:=hz;unfold execOp;go_simp) hHeld ?_;simp only[Act.put,zh,zf,zg];refine qY 8 (some 122) 19 #[.pointer (some ⟨cb,0,none⟩),.bool (decide (0<XJ)),.int .i64 138,.int .i64 n.a] (by kernel_rfl) rfl rfl (by rfl) (by kernel_rfl) (qk (G9.keep (Below.refl _ W9).drew) (decide (0<XJ)) 138 n.a) ?_;rintro e W11 ⟨rfl,h11',s11'⟩;have s11:=Sp.left (Below.refl _ W9).drew s11'
  have h11:zZ E W11 cb { V with vd:= .slice A8 ((vU k n 256).devs.length+1) C8 } (Up k n):=by
   unfold Up;rw[eJ];exact h11'
  have N11:=N9.onl s11.only HNN9.out;have T11:=T9a.onl s11.only HNT9.out;have e11:(Up k n).journals=XJ:=by unfold Up;rw[(jy _ _ _ _).1,eJ]
  refine⟨_,rfl,⟨by have q:=h11.has.cell 6;simp only[vh,List.getElem?_toArray,List.getElem?_cons_zero,List.getElem?_cons_succ]at q;rw[e11]at q;exact q,by have q:=N11.cell 3;exact q⟩,?_⟩;simp only[Act.put,zh,zf,zg];refine wpAnyH_done (by kernel_rfl) ?_ _;have hs11:=hs9'.trans s11;obtain⟨h12,b12⟩:=h11.put (rj2 k n) 6 (.int .i64 (XJ+1)) (by unfold rj2;rw[e11];rfl) rfl rfl rfl;obtain⟨h13,b13⟩:=h12.put (KH k n) 1 (.int .i64 (DL:Nat)) (by unfold KH;rw[HDL1.out];rfl) rfl rfl rfl;have hs13:=(hs11.trans b12).trans b13
  obtain⟨W13,hW13⟩:∃W13,W13=(W11.setCell ⟨cb,6,none⟩ (.int .i64 (XJ+1))).setCell ⟨cb,1,none⟩ (.int .i64 (DL:Nat)):=⟨_,rfl⟩
  have HW13:=ze hW13;have htcb:W2.heap.size≠cb:=λe=>HNT9.out (.inl e)
  have T9:=(T11.other (p:=⟨cb,6,none⟩) htcb (.int .i64 (XJ+1))).other (p:=⟨cb,1,none⟩) htcb (.int .i64 (DL:Nat));rw[←hW13]at h13 hs13 T9;have c5r:=h13.has.cell 5;have e0:=h11.has.cell 0;have e1:=h11.has.cell 1;have e6:=h11.has.cell 6;have g1:=h11.has.free 1;have g6:=h11.has.free 6;have ll:=h11.has.lt;simp only[vh,List.getElem?_toArray,List.getElem?_cons_zero,List.getElem?_cons_succ]at c5r e0 e1 e6;rw[e11]at e6;rw[←HDLe.out]at e0;clear hHeld h11' s11' s11 c6r n3r m0 ml G9 N9 T9a hs9' hs11 h12 b12 b13 hW13 h11 T11 N11 e11 eJ
  go_wp2
  rw[←HW13.out];clear e0 e1 e6 g1 g6 ll;refine jp (S:=λwz=>wz.cell? ⟨cb,5,none⟩=some V.vt∧zm wz W2.heap.size 95 #[.string (bs n.s),.string (bs n.op),.int .i64 0,.slice none 0 0]) 10 (by kernel_rfl) (⟨c5r,T9⟩) (λhHeld=>?_);refine ja 0 (some 218) (.pointer (some ⟨cb,0,none⟩)) hHeld ?_;simp only[Act.put,zh,zf,zg];refine ja 1 (some 219) (.pointer (some ⟨cb,0,none⟩)) hHeld ?_;simp only[Act.put,zh,zf,zg];refine ja 2 (some 220) (.pointer (some ⟨cb,0,none⟩)) hHeld ?_;simp only[Act.put,zh,zf,zg];refine ja 3 (some 221) (.pointer (some ⟨cb,5,none⟩)) hHeld ?_;simp only[Act.put,zh,zf,zg];refine j3 4 (some 222) (V.vt) rfl rfl (λwz hz=>by obtain⟨z0,z1⟩:=hz;unfold execOp;go_simp) hHeld ?_;simp only[Act.put,zh,zf,zg];refine j3 5 (some 223) (.agg #[.string (bs n.s),.string (bs n.op),.int .i64 0,.slice none 0 0]) rfl rfl (λwz hz=>vH _ rfl W2.heap.size rfl wz hz.2) hHeld ?_;simp only[Act.put,zh,zf,zg]
  have hT2:(W13.drew.alloc (.cells #[.string (bs n.s),.string (bs n.op),.int .i64 0,.slice none 0 0] 95)).cell? ⟨cb,5,none⟩=some V.vt∧zm (W13.drew.alloc (.cells #[.string (bs n.s),.string (bs n.op),.int .i64 0,.slice none 0 0] 95)) W2.heap.size 95 #[.string (bs n.s),.string (bs n.op),.int .i64 0,.slice none 0 0]:=⟨za (zl W13.drew _) hHeld.1,hHeld.2.alloc _⟩
  refine zV 6 (some 224) (.slice (some ⟨W13.heap.size,0,none⟩) 1 1) (W13.drew.alloc (.cells #[.string (bs n.s),.string (bs n.op),.int .i64 0,.slice none 0 0] 95)) (by kernel_rfl) rfl rfl (by rfl) (by kernel_rfl) hT2 ?_;simp only[Act.put,zh,zf,zg];have hb67:Below W13.heap.size W13 (W13.drew.alloc (.cells #[.string (bs n.s),.string (bs n.op),.int .i64 0,.slice none 0 0] 95)):=(zr (Below.refl _ W13)).trans (zl W13.drew _);have G7:=h13.keep hb67;obtain⟨us,e1,hpr,hpi⟩:=G7.thgs;obtain⟨A8,C8,w8,hr8,hrow8,hg8,hw8⟩:=zX JX (ty:=59) (W13.drew.alloc (.cells #[.string (bs n.s),.string (bs n.op),.int .i64 0,.slice none 0 0] 95)) cb ((KH k n)).things.length _ _ hpr (by have:=G7.has.lt;omega) (by have:=G7.few.2.1;omega) #[.string (bs n.s),.string (bs n.op),.int .i64 0,.slice none 0 0].toList rfl (by intro u hu;simp at hu;rcases hu with rfl|rfl|rfl|rfl<;>rfl) W13.heap.size (zm.new_at rfl);obtain⟨GT,ST⟩:=G7.putThing (p:=⟨n.s,n.op,0,[]⟩) (u:= .slice none 0 0) (by rw[HTE.out];have:=HTL.out;omega) e1 hpi hpr ⟨none,0,rfl,Nat.le_refl _,by unfold maxLen;omega,.inl rfl⟩ hg8 hrow8 hw8;have cb8h:=zy G7.has hg8 G7.own_ne.2.2;have T8:=zy hT2.2 hg8 (λe=>HNT.out (.inr (.inr (.inr e))));have c58:=cb8h.cell 5;simp only[vh,List.getElem?_toArray,List.getElem?_cons_zero,List.getElem?_cons_succ]at c58
  have hT8:w8.cell? ⟨cb,5,none⟩=some V.vt∧zm w8 W2.heap.size 95 #[.string (bs n.s),.string (bs n.op),.int .i64 0,.slice none 0 0]:=⟨c58,T8⟩
  refine zV 7 (some 225) (.slice A8 (((KH k n)).things.length+1) C8) w8 (by kernel_rfl) rfl rfl (by rfl) (zW _ _ rfl rfl rfl hr8) hT8 ?_;simp only[Act.put,zh,zf,zg];refine zV 8 (some 226) (.pointer (some ⟨cb,0,none⟩)) w8 (by kernel_rfl) rfl rfl (by rfl) rfl hT8 ?_;simp only[Act.put,zh,zf,zg];refine zV 9 (some 227) (.pointer (some ⟨cb,5,none⟩)) w8 (by kernel_rfl) rfl rfl (by rfl) rfl hT8 ?_;simp only[Act.put,zh,zf,zg];have q8:=cb8h.cell 5;have f8:=cb8h.free 5;have l8:=cb8h.lt;simp only[vh,List.getElem?_toArray,List.getElem?_cons_zero,List.getElem?_cons_succ]at q8;refine qC 10 none (w8.setCell ⟨cb,5,none⟩ (.slice A8 (((KH k n)).things.length+1) C8)) (by kernel_rfl) rfl rfl (by rfl) (by unfold execOp;go_simp) (by kernel_rfl) ?_;simp only[Act.put];have hsT:=Sp.left hb67 ST;clear hT8 hT2 hHeld q8 f8 l8 hr8 hrow8 hg8 hw8 cb8h G7 T8 c58 ST hb67 hpi hpr e1;refine bodyPost_end (results_none rfl _ _ _) rfl ?_;rw[HR.out];exact⟨rfl,_,GT.mono (λg _ _ e=> .inl e),Sp.left HB1.out (hs13.trans hsT)⟩
 |false =>
  have hcc:cc=decide (2048<n.n):=by rw[HCC.out,hls];rfl
  rw[hcc]at hf6
  go_wp2_with (first
   |((go_at_call 19)
     refine hf6.mono ?_;(rintro e W6 ⟨rfl,h6,s6⟩)))
  have N6:=N5.onl s6.only HNO.out;have T6:=T5.onl s6.only HNT.out;have hs6:=hs5.trans s6;have c0r:=h6.has.cell 0;have n2r:=N6.cell 2;simp only[vh,List.getElem?_toArray,List.getElem?_cons_zero,List.getElem?_cons_succ]at c0r n2r;clear m0 m2 m3 ml hf6 hs5 N5 T5 h5 s6 hls hcc HCC;refine jp (S:=λwz=>wz.cell? ⟨cb,0,none⟩=some V.vd∧wz.cell? ⟨w.heap.size,2,none⟩=some (.int .i64 n.n)) 13 (by kernel_rfl) (⟨c0r,n2r⟩) (λhHeld=>?_);refine ja 0 (some 98) (.pointer (some ⟨cb,0,none⟩)) hHeld ?_;simp only[Act.put,zh,zf,zg];refine ja 1 (some 99) (.pointer (some ⟨cb,0,none⟩)) hHeld ?_;simp only[Act.put,zh,zf,zg];refine ja 2 (some 100) (.pointer (some ⟨cb,0,none⟩)) hHeld ?_;simp only[Act.put,zh,zf,zg];refine ja 3 (some 101) (.pointer (some ⟨cb,0,none⟩)) hHeld ?_;simp only[Act.put,zh,zf,zg];refine ja 4 (some 102) (.pointer (some ⟨cb,0,none⟩)) hHeld ?_;simp only[Act.put,zh,zf,zg];refine j3 5 (some 103) (V.vd) rfl rfl (λwz hz=>by obtain⟨z0,z1⟩:=hz;unfold execOp;go_simp) hHeld ?_;simp only[Act.put,zh,zf,zg];refine ja 6 (some 104) (.pointer (some ⟨w.heap.size,2,none⟩)) hHeld ?_;simp only[Act.put,zh,zf,zg];refine j3 7 (some 105) (.int .i64 n.n) rfl rfl (λwz hz=>by obtain⟨z0,z1⟩:=hz;unfold execOp;go_simp) hHeld ?_;simp only[Act.put,zh,zf,zg]
  have hT2:(W6.drew.alloc (.cells #[.int .i64 n.n] 3)).cell? ⟨cb,0,none⟩=some V.vd∧(W6.drew.alloc (.cells #[.int .i64 n.n] 3)).cell? ⟨w.heap.size,2,none⟩=some (.int .i64 n.n):=⟨za (zl W6.drew _) hHeld.1,za (zl W6.drew _) hHeld.2⟩
  refine zV 8 (some 106) (.slice (some ⟨W6.heap.size,0,none⟩) 1 1) (W6.drew.alloc (.cells #[.int .i64 n.n] 3)) (by kernel_rfl) rfl rfl (by rfl) (by kernel_rfl) hT2 ?_;simp only[Act.put,zh,zf,zg];have hb67:Below W6.heap.size W6 (W6.drew.alloc (.cells #[.int .i64 n.n] 3)):=(zr (Below.refl _ W6)).trans (zl W6.drew _);have G7:=h6.keep hb67;have N7:=N6.below hb67 N6.lt;obtain⟨A8,C8,w8,hr8,hrow8,hg8,hw8⟩:=zX J2 (ty:=29) (W6.drew.alloc (.cells #[.int .i64 n.n] 3)) cb ((vU k n 256)).devs.length _ _ G7.devs (by have:=G7.has.lt;omega) (by have:=G7.few.2.2;omega) [.int .i64 n.n] rfl (by intro u hu;simp at hu;subst hu;rfl) W6.heap.size (zm.new_at rfl);obtain⟨G9,S9⟩:=G7.putDev (d:=n.n) (by rw[HDE.out];have:=HDL.out;omega) hg8 hrow8 hw8;have cb8h:=zy G7.has hg8 G7.own_ne.1;have N8:=zy N7 hg8 (λe=>HNO.out (.inr (.inl e)));have c08:=cb8h.cell 0;have n28:=N8.cell 2;simp only[vh,List.getElem?_toArray,List.getElem?_cons_zero,List.getElem?_cons_succ]at c08 n28
  have hT8:w8.cell? ⟨cb,0,none⟩=some V.vd∧w8.cell? ⟨w.heap.size,2,none⟩=some (.int .i64 n.n):=⟨c08,n28⟩
  refine zV 9 (some 107) (.slice A8 (((vU k n 256)).devs.length+1) C8) w8 (by kernel_rfl) rfl rfl (by rfl) (zW _ _ rfl rfl rfl hr8) hT8 ?_;simp only[Act.put,zh,zf,zg];refine zV 10 (some 108) (.pointer (some ⟨cb,0,none⟩)) w8 (by kernel_rfl) rfl rfl (by rfl) rfl hT8 ?_;simp only[Act.put,zh,zf,zg];refine zV 11 (some 109) (.pointer (some ⟨cb,0,none⟩)) w8 (by kernel_rfl) rfl rfl (by rfl) rfl hT8 ?_;simp only[Act.put,zh,zf,zg];refine zV 12 (some 110) (.pointer (some ⟨cb,0,none⟩)) w8 (by kernel_rfl) rfl rfl (by rfl) rfl hT8 ?_;simp only[Act.put,zh,zf,zg];have q8:=cb8h.cell 0;have f8:=cb8h.free 0;have l8:=cb8h.lt;simp only[vh,List.getElem?_toArray,List.getElem?_cons_zero]at q8;refine qC 13 none (w8.setCell ⟨cb,0,none⟩ (.slice A8 (((vU k n 256)).devs.length+1) C8)) (by kernel_rfl) rfl rfl (by rfl) (by unfold execOp;go_simp) (by kernel_rfl) ?_;simp only[Act.put];have hs9:Sp (V.own cb) W6 (RV.own { V with vd:= .slice A8 (((vU k n 256)).devs.length+1) C8 } cb) (w8.setCell ⟨cb,0,none⟩ (.slice A8 (((vU k n 256)).devs.length+1) C8)):=Sp.left hb67 S9;have N9:=N8.other (p:=⟨cb,0,none⟩) (show w.heap.size≠cb from hncb) (.slice A8 (((vU k n 256)).devs.length+1) C8);generalize w8.setCell ⟨cb,0,none⟩ (.slice A8 (((vU k n 256)).devs.length+1) C8)=W9 at *;clear hT8 hT2 hHeld q8 f8 l8 hr8 hrow8 hg8 hw8 cb8h G7 N7 N8 c08 n28 S9 hb67;have T9a:=T6.onl hs9.only HNT.out;have HNT9:=ze (show ¬RV.own { V with vd:= .slice A8 ((vU k n 256).devs.length+1) C8 } cb W2.heap.size from λq=>(hs9.new _ q).elim HNT.out (λz=>absurd T6.lt (Nat.not_lt.2 z)));have HNN9:=ze (show ¬RV.own { V with vd:= .slice A8 ((vU k n 256).devs.length+1) C8 } cb w.heap.size from λq=>(hs9.new _ q).elim HNO.out (λz=>absurd N6.lt (Nat.not_lt.2 z)));have hs9':=hs6.trans hs9;replace G9:zZ E W9 cb { V with vd:= .slice A8 ((vU k n 256).devs.length+1) C8 } (xO k n 256):=G9
  obtain⟨XJ,hXJ⟩:∃XJ,XJ=k.journals:=⟨_,rfl⟩
  have hxj:=HJO.out;rw[←hXJ]at hxj;obtain⟨hxj0,hxj1⟩:=hxj
  have eJ:(xO k n 256).journals=XJ:=by
   unfold xO vU QR;show(zA (zA _ _ _ _) _ _ _).journals=_;rw[(jy _ _ _ _).1,(jy _ _ _ _).1];unfold Zh rh;show(zA k _ _ _).journals=_;rw[(jy _ _ _ _).1,hXJ]
  obtain⟨DL,hDLe⟩:∃DL,DL=(vU k n 256).devs.length:=⟨_,rfl⟩
  have hDL1:DL=k.devs.length:=by rw[hDLe,HDE.out]
  have hDLb:DL≤10000:=by rw[hDL1];exact HDL.out
  have HDL1:=ze hDL1;have c6r:=G9.has.cell 6;have n3r:=N9.cell 3;have m0:=N9.cell 0;have ml:=N9.lt;simp only[vh,List.getElem?_toArray,List.getElem?_cons_zero,List.getElem?_cons_succ]at c6r n3r m0;rw[eJ]at c6r;have HDLe:=ze hDLe;clear hXJ hDLe hDL1 hs9 hs6 T6 h6 N6 c0r n2r
  go_wp2
  refine wp_region_held_drew (S:=λwz=>wz.cell? ⟨cb,6,none⟩=some (.int .i64 XJ)∧wz.cell? ⟨w.heap.size,3,none⟩=some (.int .i64 n.a)) (by kernel_rfl) (⟨c6r,n3r⟩) (λhHeld=>?_);refine zw 0 (some 114) (.pointer (some ⟨cb,0,none⟩)) hHeld ?_;simp only[Act.put,zh,zf,zg];refine zw 1 (some 115) (.pointer (some ⟨cb,0,none⟩)) hHeld ?_;simp only[Act.put,zh,zf,zg];refine zw 2 (some 116) (.pointer (some ⟨cb,0,none⟩)) hHeld ?_;simp only[Act.put,zh,zf,zg];refine zw 3 (some 117) (.pointer (some ⟨cb,6,none⟩)) hHeld ?_;simp only[Act.put,zh,zf,zg];refine zD 4 (some 118) (.int .i64 XJ) rfl rfl (λwz hz=>by obtain⟨z0,z1⟩:=hz;unfold execOp;go_simp) hHeld ?_;simp only[Act.put,zh,zf,zg];refine zD 5 (some 119) (.bool (decide (0<XJ))) rfl rfl (λwz _=>yQ 0 _ rfl _ rfl (decide (0<XJ)) rfl wz) hHeld ?_;simp only[Act.put,zh,zf,zg];refine zw 6 (some 120) (.pointer (some ⟨w.heap.size,3,none⟩)) hHeld ?_;simp only[Act.put,zh,zf,zg];refine zD 7 (some 121) (.int .i64 n.a) rfl rfl (λwz hz=>by obtain⟨z0,z1⟩:=hz;unfold execOp;go_simp) hHeld ?_;simp only[Act.put,zh,zf,zg];refine qY 8 (some 122) 19 #[.pointer (some ⟨cb,0,none⟩),.bool (decide (0<XJ)),.int .i64 138,.int .i64 n.a] (by kernel_rfl) rfl rfl (by rfl) (by kernel_rfl) (qk (G9.keep (Below.refl _ W9).drew) (decide (0<XJ)) 138 n.a) ?_;rintro e W11 ⟨rfl,h11',s11'⟩;have s11:=Sp.left (Below.refl _ W9).drew s11'
  have h11:zZ E W11 cb { V with vd:= .slice A8 ((vU k n 256).devs.length+1) C8 } (Up k n):=by
   unfold Up;rw[eJ];exact h11'
  have N11:=N9.onl s11.only HNN9.out;have T11:=T9a.onl s11.only HNT9.out;have e11:(Up k n).journals=XJ:=by unfold Up;rw[(jy _ _ _ _).1,eJ]
  refine⟨_,rfl,⟨by have q:=h11.has.cell 6;simp only[vh,List.getElem?_toArray,List.getElem?_cons_zero,List.getElem?_cons_succ]at q;rw[e11]at q;exact q,by have q:=N11.cell 3;exact q⟩,?_⟩;simp only[Act.put,zh,zf,zg];refine wpAnyH_done (by kernel_rfl) ?_ _;have hs11:=hs9'.trans s11;obtain⟨h12,b12⟩:=h11.put (rj2 k n) 6 (.int .i64 (XJ+1)) (by unfold rj2;rw[e11];rfl) rfl rfl rfl;obtain⟨h13,b13⟩:=h12.put (KH k n) 1 (.int .i64 (DL:Nat)) (by unfold KH;rw[HDL1.out];rfl) rfl rfl rfl;have hs13:=(hs11.trans b12).trans b13
  obtain⟨W13,hW13⟩:∃W13,W13=(W11.setCell ⟨cb,6,none⟩ (.int .i64 (XJ+1))).setCell ⟨cb,1,none⟩ (.int .i64 (DL:Nat)):=⟨_,rfl⟩
  have HW13:=ze hW13;have htcb:W2.heap.size≠cb:=λe=>HNT9.out (.inl e)
  have T9:=(T11.other (p:=⟨cb,6,none⟩) htcb (.int .i64 (XJ+1))).other (p:=⟨cb,1,none⟩) htcb (.int .i64 (DL:Nat));rw[←hW13]at h13 hs13 T9;have c5r:=h13.has.cell 5;have e0:=h11.has.cell 0;have e1:=h11.has.cell 1;have e6:=h11.has.cell 6;have g1:=h11.has.free 1;have g6:=h11.has.free 6;have ll:=h11.has.lt;simp only[vh,List.getElem?_toArray,List.getElem?_cons_zero,List.getElem?_cons_succ]at c5r e0 e1 e6;rw[e11]at e6;rw[←HDLe.out]at e0;clear hHeld h11' s11' s11 c6r n3r m0 ml G9 N9 T9a hs9' hs11 h12 b12 b13 hW13 h11 T11 N11 e11 eJ
  go_wp2
  rw[←HW13.out];clear e0 e1 e6 g1 g6 ll;refine jp (S:=λwz=>wz.cell? ⟨cb,5,none⟩=some V.vt∧zm wz W2.heap.size 95 #[.string (bs n.s),.string (bs n.op),.int .i64 0,.slice none 0 0]) 10 (by kernel_rfl) (⟨c5r,T9⟩) (λhHeld=>?_);refine ja 0 (some 218) (.pointer (some ⟨cb,0,none⟩)) hHeld ?_;simp only[Act.put,zh,zf,zg];refine ja 1 (some 219) (.pointer (some ⟨cb,0,none⟩)) hHeld ?_;simp only[Act.put,zh,zf,zg];refine ja 2 (some 220) (.pointer (some ⟨cb,0,none⟩)) hHeld ?_;simp only[Act.put,zh,zf,zg];refine ja 3 (some 221) (.pointer (some ⟨cb,5,none⟩)) hHeld ?_;simp only[Act.put,zh,zf,zg];refine j3 4 (some 222) (V.vt) rfl rfl (λwz hz=>by obtain⟨z0,z1⟩:=hz;unfold execOp;go_simp) hHeld ?_;simp only[Act.put,zh,zf,zg];refine j3 5 (some 223) (.agg #[.string (bs n.s),.string (bs n.op),.int .i64 0,.slice none 0 0]) rfl rfl (λwz hz=>vH _ rfl W2.heap.size rfl wz hz.2) hHeld ?_;simp only[Act.put,zh,zf,zg]
  have hT2:(W13.drew.alloc (.cells #[.string (bs n.s),.string (bs n.op),.int .i64 0,.slice none 0 0] 95)).cell? ⟨cb,5,none⟩=some V.vt∧zm (W13.drew.alloc (.cells #[.string (bs n.s),.string (bs n.op),.int .i64 0,.slice none 0 0] 95)) W2.heap.size 95 #[.string (bs n.s),.string (bs n.op),.int .i64 0,.slice none 0 0]:=⟨za (zl W13.drew _) hHeld.1,hHeld.2.alloc _⟩
  refine zV 6 (some 224) (.slice (some ⟨W13.heap.size,0,none⟩) 1 1) (W13.drew.alloc (.cells #[.string (bs n.s),.string (bs n.op),.int .i64 0,.slice none 0 0] 95)) (by kernel_rfl) rfl rfl (by rfl) (by kernel_rfl) hT2 ?_;simp only[Act.put,zh,zf,zg];have hb67:Below W13.heap.size W13 (W13.drew.alloc (.cells #[.string (bs n.s),.string (bs n.op),.int .i64 0,.slice none 0 0] 95)):=(zr (Below.refl _ W13)).trans (zl W13.drew _);have G7:=h13.keep hb67;obtain⟨us,e1,hpr,hpi⟩:=G7.thgs;obtain⟨A8,C8,w8,hr8,hrow8,hg8,hw8⟩:=zX JX (ty:=59) (W13.drew.alloc (.cells #[.string (bs n.s),.string (bs n.op),.int .i64 0,.slice none 0 0] 95)) cb ((KH k n)).things.length _ _ hpr (by have:=G7.has.lt;omega) (by have:=G7.few.2.1;omega) #[.string (bs n.s),.string (bs n.op),.int .i64 0,.slice none 0 0].toList rfl (by intro u hu;simp at hu;rcases hu with rfl|rfl|rfl|rfl<;>rfl) W13.heap.size (zm.new_at rfl);obtain⟨GT,ST⟩:=G7.putThing (p:=⟨n.s,n.op,0,[]⟩) (u:= .slice none 0 0) (by rw[HTE.out];have:=HTL.out;omega) e1 hpi hpr ⟨none,0,rfl,Nat.le_refl _,by unfold maxLen;omega,.inl rfl⟩ hg8 hrow8 hw8;have cb8h:=zy G7.has hg8 G7.own_ne.2.2;have T8:=zy hT2.2 hg8 (λe=>HNT.out (.inr (.inr (.inr e))));have c58:=cb8h.cell 5;simp only[vh,List.getElem?_toArray,List.getElem?_cons_zero,List.getElem?_cons_succ]at c58
  have hT8:w8.cell? ⟨cb,5,none⟩=some V.vt∧zm w8 W2.heap.size 95 #[.string (bs n.s),.string (bs n.op),.int .i64 0,.slice none 0 0]:=⟨c58,T8⟩
  refine zV 7 (some 225) (.slice A8 (((KH k n)).things.length+1) C8) w8 (by kernel_rfl) rfl rfl (by rfl) (zW _ _ rfl rfl rfl hr8) hT8 ?_;simp only[Act.put,zh,zf,zg];refine zV 8 (some 226) (.pointer (some ⟨cb,0,none⟩)) w8 (by kernel_rfl) rfl rfl (by rfl) rfl hT8 ?_;simp only[Act.put,zh,zf,zg];refine zV 9 (some 227) (.pointer (some ⟨cb,5,none⟩)) w8 (by kernel_rfl) rfl rfl (by rfl) rfl hT8 ?_;simp only[Act.put,zh,zf,zg];have q8:=cb8h.cell 5;have f8:=cb8h.free 5;have l8:=cb8h.lt;simp only[vh,List.getElem?_toArray,List.getElem?_cons_zero,List.getElem?_cons_succ]at q8;refine qC 10 none (w8.setCell ⟨cb,5,none⟩ (.slice A8 (((KH k n)).things.length+1) C8)) (by kernel_rfl) rfl rfl (by rfl) (by unfold execOp;go_simp) (by kernel_rfl) ?_;simp only[Act.put];have hsT:=Sp.left hb67 ST;clear hT8 hT2 hHeld q8 f8 l8 hr8 hrow8 hg8 hw8 cb8h G7 T8 c58 ST hb67 hpi hpr e1;refine bodyPost_end (results_none rfl _ _ _) rfl ?_;rw[HR.out];exact⟨rfl,_,GT.mono (λg _ _ e=> .inl e),Sp.left HB1.out (hs13.trans hsT)⟩
end
end Go.Proofs.YteaddcdpgcgggaaGreatDoor
