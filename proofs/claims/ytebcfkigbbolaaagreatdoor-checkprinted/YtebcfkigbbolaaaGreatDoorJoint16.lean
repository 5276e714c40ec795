import Derived.Test.YtebcfkigbbolaaaGreatDoorJoint15
import Derived.Test.YtebcfkigbbolaaaGreatDoorJoint13
import Derived.Shelf.Strings.Builder1
import Derived.Shelf.Strings.Builder2
import Derived.Shelf.Strings.OnBuilder
import Derived.Shelf.Strconv.Itoa0
import Derived.Shelf.Strconv.Itoa1
import Derived.Shelf.LaysM
import Derived.Shelf.Strconv.Itoa2
import Derived.Shelf.Strconv.Itoa3
import Derived.Shelf.Bytes.SlClone
import Derived.Shelf.Bytes.SlEqualAll
import Derived.Shelf.Bytes.Small
import Derived.Test.YtebcfkigbbolaaaGreatDoorProg
import Derived.Test.YtebcfkigbbolaaaGreatDoorJoint06
namespace Go.Proofs.YtebcfkigbbolaaaGreatDoor
set_option linter.unusedVariables false
set_option maxRecDepth 100000
set_option maxHeartbeats 40000000
section
open Go.ChangeShapes Go.WideShapes Go.ChangeAt Go.RowKit Go.MapKept
theorem Z3{o:Oper}{a:Act}(x:Operand)(ho:o.op= .convert 45 9 x)(v:Value)(hx:a.eval x=v)(w:World)(u:Value)(hr:(convert 45 9 v).run Tryz.prog w= .ok u w):(execOp a.eval o).run Tryz.prog w= .ok (.value u) w:=by
 unfold execOp;simp[ho,hx,hr]
theorem Z0{w:World}{P:Nat→Prop}{A:Option Addr}{l:List UInt8}(C:Nat)(h:yc w P A l):(convert 45 9 (.slice A l.length C)).run Tryz.prog w= .ok (.string (bs l)) w:=by
 cases A with
 |none =>
  have :l= []:=by
   rcases h with h|⟨b,off,e,_⟩
   ·exact h
   ·cases e
  subst this;rw[List.length_nil,run_convert_bytes_string w 45 9 5 none 0 C Tryz.underlying45 Tryz.underlying5 Tryz.underlying9];rfl
 |some x =>
  exact run_convert_bytes_back (P:=Tryz.prog) w 45 9 5 x C l Tryz.underlying45 Tryz.underlying5 Tryz.underlying9 (by
   intro j hj;rcases h with h0|⟨b,off,e,_,_,hc⟩
   ·subst h0;cases hj
   ·obtain rfl:x=⟨b,off,none⟩:=Option.some.inj e
    rw[show(⟨b,off,none⟩:Addr).add j=⟨b,off+j,none⟩from by simp[Addr.add],hc j hj])
theorem yP.bytes{w:World}{B g off:Nat}{ps:List Pt}(h:yP w B (some ⟨g,off,none⟩) ps){i:Nat}(hi:i<ps.length):∃Ak Ck A2 C2 A3 C3,(∀j,j<8→w.cell? ⟨g,off+i*8+j,none⟩=(#[.int .i64 (ps[i].kind:Nat),.int .i64 (ps[i].size:Nat),.slice Ak ps[i].kids.length Ck,.int .i64 (ps[i].dev:Nat),.int .i64 (ps[i].first:Nat),.int .i64 (ps[i].chunk:Nat),.slice A2 ps[i].key.length C2,.slice A3 ps[i].root.length C3]:Array Value)[j]?)∧Zs w (λg=>g<B) Ak ps[i].kids∧yc w (λg=>g<B) A2 ps[i].key∧yc w (λg=>g<B) A3 ps[i].root:=by
 obtain⟨g',off',u,e,_,_,hc,hin⟩:=h i hi;cases e;obtain⟨⟨A1,C1,e1,a1,b1,i1⟩,⟨A2,C2,e2,a2,b2,i2⟩,⟨A3,C3,e3,a3,b3,i3⟩⟩:=hin;refine⟨A1,C1,A2,C2,A3,C3,λj hj=>?_,i1,i2,i3⟩;have:=hc j hj;unfold uW at this;rw[e1,e2,e3]at this;exact this
theorem K8(w:World):Calls Tryz.prog 13 #[.agg #[.slice none 0 0,.int .i64 0,.slice none 0 0,.int .i64 0,.bool false],.agg #[.slice none 0 0,.int .i64 0,.slice none 0 0,.int .i64 0,.bool false]] w λe w'=>e= .returned (.bool true)∧Below w.heap.size w w':=by
 go_enter Tryz.func13,Tryz.ntmps13
 go_wp2
 go_loopw [5] (λz wr=>z= .int .i64 0∧wr=(w.alloc (.cells #[.slice none 0 0,.int .i64 0,.slice none 0 0,.int .i64 0,.bool false] 32)).alloc (.cells #[.slice none 0 0,.int .i64 0,.slice none 0 0,.int .i64 0,.bool false] 32)) (λz _=>0)
 case atStart=>exact⟨rfl,rfl⟩
 case round =>
  obtain⟨rfl,rfl⟩:=hrel
  go_wp2
  go_loopw [6] (λz wr=>z= .int .i64 0∧wr=(w.alloc (.cells #[.slice none 0 0,.int .i64 0,.slice none 0 0,.int .i64 0,.bool false] 32)).alloc (.cells #[.slice none 0 0,.int .i64 0,.slice none 0 0,.int .i64 0,.bool false] 32)) (λz _=>0)
  case atStart=>exact⟨rfl,rfl⟩
  case round =>
   obtain⟨rfl,rfl⟩:=hrel
   go_wp2
   go_ret
   exact⟨rfl,qv w _ _⟩
theorem FK{s:VK}{w:World}{B1 B2:Nat}{vd1 vp1 vd2 vp2:Value}(h1:xm w B1 s vd1 vp1)(h2:xm w B2 s vd2 vp2)(hsw:SW s):Calls Tryz.prog 13 #[.agg #[vd1,.int .i64 (s.jour:Nat),vp1,.int .i64 (s.expo:Nat),.bool s.ro],.agg #[vd2,.int .i64 (s.jour:Nat),vp2,.int .i64 (s.expo:Nat),.bool s.ro]] w λe w'=>e= .returned (.bool true)∧Below w.heap.size w w':=by
 have hNP0:0<s.parts.length:=by have:=hsw.expo.1;omega
 have hDL0:0<s.devs.length:=by have:=hsw.jour;omega
 obtain⟨gd1,od1,Cd1,rfl,_,_,hgd1,hdv1⟩:=h1.dev hDL0;obtain⟨g1,off1,Cp1,rfl,_,_,hg1,-,hPt1⟩:=h1.pts hNP0;obtain⟨gd2,od2,Cd2,rfl,_,_,hgd2,hdv2⟩:=h2.dev hDL0;obtain⟨g2,off2,Cp2,rfl,_,_,hg2,-,hPt2⟩:=h2.pts hNP0
 obtain⟨NP,hNP⟩:∃NP,NP=s.parts.length:=⟨_,rfl⟩
 have HNP:=zz hNP
 obtain⟨DL,hDL⟩:∃DL,DL=s.devs.length:=⟨_,rfl⟩
 have HDL:=zz hDL;have hNP72:NP≤72:=by rw[hNP];exact hsw.few
 have hDL8:DL≤8:=by rw[hDL];exact hsw.dfew
 have HSW:=zz hsw.part;rw[←hNP,←hDL]
 obtain⟨J,hJ⟩:∃J,J=s.jour:=⟨_,rfl⟩
 obtain⟨X,hX⟩:∃X,X=s.expo:=⟨_,rfl⟩
 rw[←hJ,←hX]
 obtain⟨W2,hW2⟩:∃W2,W2=(w.alloc (.cells #[.slice (some ⟨gd1,od1,none⟩) DL Cd1,.int .i64 (J:Nat),.slice (some ⟨g1,off1,none⟩) NP Cp1,.int .i64 (X:Nat),.bool s.ro] 32)).alloc (.cells #[.slice (some ⟨gd2,od2,none⟩) DL Cd2,.int .i64 (J:Nat),.slice (some ⟨g2,off2,none⟩) NP Cp2,.int .i64 (X:Nat),.bool s.ro] 32):=⟨_,rfl⟩
 have hb2:Below w.heap.size w W2:=by rw[hW2];exact qv w _ _
 have S1:ze W2 w.heap.size 32 #[.slice (some ⟨gd1,od1,none⟩) DL Cd1,.int .i64 (J:Nat),.slice (some ⟨g1,off1,none⟩) NP Cp1,.int .i64 (X:Nat),.bool s.ro]:=by rw[hW2];exact(ze.new w _ _).alloc _
 have S2:ze W2 (w.heap.size+1) 32 #[.slice (some ⟨gd2,od2,none⟩) DL Cd2,.int .i64 (J:Nat),.slice (some ⟨g2,off2,none⟩) NP Cp2,.int .i64 (X:Nat),.bool s.ro]:=by rw[hW2];exact ze.new_at (by simp)
 have HW:=zz hW2;clear hNP hDL hJ hX hW2 h1 h2 hsw;go_enter Tryz.func13,Tryz.ntmps13
 go_wp2
 rw[←HW.out]
 go_loopw [5] (λz wr=>∃(i:Nat),z= .int .i64 (i:Nat)∧i≤DL∧Below W2.heap.size W2 wr) (λz _=>DL-(intOf z).toNat)
 case atStart=>exact⟨0,rfl,Nat.zero_le _,Below.refl _ _⟩
 case round =>
  obtain⟨i,rfl,hi,Br⟩:=hrel;have T1:=S1.below Br S1.lt;have T2:=S2.below Br S2.lt;have c0:=T1.cell 0;have c2:=T1.cell 2;have d0:=T2.cell 0;have cl:=T1.lt;have dl:=T2.lt;simp only[jg,jd,jf]at c0 c2 d0;by_cases hlt:i<DL
  ·have hint:(i:Int)<(DL:Int):=by omega
   have hil:i<s.devs.length:=by rw[←HDL.out];exact hlt
   have e1:=za Br (za hb2 (hdv1 i hil));have e2:=za Br (za hb2 (hdv2 i hil));have l1:gd1<wr.heap.size:=Nat.lt_of_lt_of_le hgd1 (Nat.le_trans hb2.size Br.size);have l2:gd2<wr.heap.size:=Nat.lt_of_lt_of_le hgd2 (Nat.le_trans hb2.size Br.size);generalize s.devs.getD i 0=dz at *
   go_wp2
   go_quiet (fail)
   go_wp2
   go_roundw
   case rel=>exact⟨i+1,by go_num,by omega,jG Br _⟩
   case measure=>simp[intOf];omega
  ·obtain rfl:DL=i:=by omega
   go_wp2
   clear c0 c2 d0 cl dl T1 T2
   go_loopw [6] (λz wr=>∃(i:Nat),z= .int .i64 (i:Nat)∧i≤NP∧Below W2.heap.size W2 wr) (λz _=>NP-(intOf z).toNat)
   case atStart=>exact⟨0,rfl,Nat.zero_le _,Br⟩
   case round =>
    obtain⟨i,rfl,hi,Bz⟩:=hrel;have T1:=S1.below Bz S1.lt;have T2:=S2.below Bz S2.lt;have c2:=T1.cell 2;have d2:=T2.cell 2;have cl:=T1.lt;have dl:=T2.lt;simp only[jg,jd,jf]at c2 d2;by_cases hlt:i<NP
    ·have hint:(i:Int)<(NP:Int):=by omega
     have hil:i<s.parts.length:=by rw[←HNP.out];exact hlt
     have hpw:=HSW.out i hil;obtain⟨Ak1,Ck1,A21,C21,A31,C31,hc1,hk1,hy1,hr1⟩:=((hPt1.up hb2).up Bz).bytes hil;obtain⟨Ak2,Ck2,A22,C22,A32,C32,hc2,hk2,hy2,hr2⟩:=((hPt2.up hb2).up Bz).bytes hil;have hk4:=hpw.four;generalize hkd:s.parts[i].kids=kids at *;generalize s.parts[i].key=key at *;generalize s.parts[i].root=root at *;generalize s.parts[i].kind=K at *;generalize s.parts[i].size=S at *;generalize s.parts[i].dev=D at *;generalize s.parts[i].first=F at *;generalize s.parts[i].chunk=Ch at *
     obtain⟨KL,hKL⟩:∃KL,KL=kids.length:=⟨_,rfl⟩
     have HKL:=zz hKL;rw[←hKL]at hc1 hc2 hk4;have bw1:=zd wr (.cells #[.int .i64 (K:Nat),.int .i64 (S:Nat),.slice Ak1 KL Ck1,.int .i64 (D:Nat),.int .i64 (F:Nat),.int .i64 (Ch:Nat),.slice A21 key.length C21,.slice A31 root.length C31] 47)
     have hc2':∀j,j<8→(wr.alloc (.cells #[.int .i64 (K:Nat),.int .i64 (S:Nat),.slice Ak1 KL Ck1,.int .i64 (D:Nat),.int .i64 (F:Nat),.int .i64 (Ch:Nat),.slice A21 key.length C21,.slice A31 root.length C31] 47)).cell? ⟨g2,off2+i*8+j,none⟩=(#[.int .i64 (K:Nat),.int .i64 (S:Nat),.slice Ak2 KL Ck2,.int .i64 (D:Nat),.int .i64 (F:Nat),.int .i64 (Ch:Nat),.slice A22 key.length C22,.slice A32 root.length C32]:Array Value)[j]?:=λj hj=>by
      have lg:g2<wr.heap.size:=Nat.lt_of_lt_of_le hg2 (Nat.le_trans hb2.size Bz.size);exact(bw1.cell (p:=⟨g2,off2+i*8+j,none⟩) lg).trans (hc2 j hj)
     obtain⟨W4,hW4⟩:∃W4,W4=(wr.alloc (.cells #[.int .i64 (K:Nat),.int .i64 (S:Nat),.slice Ak1 KL Ck1,.int .i64 (D:Nat),.int .i64 (F:Nat),.int .i64 (Ch:Nat),.slice A21 key.length C21,.slice A31 root.length C31] 47)).alloc (.cells #[.int .i64 (K:Nat),.int .i64 (S:Nat),.slice Ak2 KL Ck2,.int .i64 (D:Nat),.int .i64 (F:Nat),.int .i64 (Ch:Nat),.slice A22 key.length C22,.slice A32 root.length C32] 47):=⟨_,rfl⟩
     have hb4:Below wr.heap.size wr W4:=by rw[hW4];exact qv wr _ _
     have Q1:ze W4 wr.heap.size 47 #[.int .i64 (K:Nat),.int .i64 (S:Nat),.slice Ak1 KL Ck1,.int .i64 (D:Nat),.int .i64 (F:Nat),.int .i64 (Ch:Nat),.slice A21 key.length C21,.slice A31 root.length C31]:=by rw[hW4];exact(ze.new wr _ _).alloc _
     have Q2:ze W4 (wr.heap.size+1) 47 #[.int .i64 (K:Nat),.int .i64 (S:Nat),.slice Ak2 KL Ck2,.int .i64 (D:Nat),.int .i64 (F:Nat),.int .i64 (Ch:Nat),.slice A22 key.length C22,.slice A32 root.length C32]:=by rw[hW4];exact ze.new_at (by simp)
     have up:∀k,k<wr.heap.size→k<wr.heap.size→W4.heap[k]?=wr.heap[k]?∧True:=λk hk _=>⟨hb4.block k hk,trivial⟩
     have HV1:=zz (Z0 C21 (hy1.keep hb4.size up));have HV2:=zz (Z0 C22 (hy2.keep hb4.size up));have HV3:=zz (Z0 C31 (hr1.keep hb4.size up));have HV4:=zz (Z0 C32 (hr2.keep hb4.size up));have hI1:=hk1.keep hb4.size up;have hI2:=hk2.keep hb4.size up;have HW4:=zz hW4;rw[hW4]at HV1 HV2 HV3 HV4;have hkt:=zx key;have hrt:=zx root;clear hKL hkd hpw hy1 hy2 hr1 hr2 hk1 hk2 hW4 up hc2
     go_wp2_with (first
      |((refine zf 75 rfl ?_)
        (refine zb (some 75) _ rfl (by rfl) (qn _ _ rfl g1 off1 i NP Cp1 rfl rfl hlt wr) ?_))
      |((refine zf 76 rfl ?_)
        (refine zb (some 76) (.agg #[.int .i64 (K:Nat),.int .i64 (S:Nat),.slice Ak1 KL Ck1,.int .i64 (D:Nat),.int .i64 (F:Nat),.int .i64 (Ch:Nat),.slice A21 key.length C21,.slice A31 root.length C31]) rfl (by rfl) (qS _ rfl g1 (off1+i*8) rfl wr hc1) ?_))
      |((refine zf 80 rfl ?_)
        (refine zb (some 80) _ rfl (by rfl) (qn _ _ rfl g2 off2 i NP Cp2 rfl rfl hlt _) ?_))
      |((refine zf 81 rfl ?_)
        (refine zb (some 81) (.agg #[.int .i64 (K:Nat),.int .i64 (S:Nat),.slice Ak2 KL Ck2,.int .i64 (D:Nat),.int .i64 (F:Nat),.int .i64 (Ch:Nat),.slice A22 key.length C22,.slice A32 root.length C32]) rfl (by rfl) (qS _ rfl g2 (off2+i*8) rfl _ hc2') ?_))
      |((refine zf 118 rfl ?_)
        (refine zb (some 118) (.string (bs key)) rfl (by rfl) (Z3 _ rfl (.slice A21 key.length C21) rfl _ _ HV1.out) ?_))
      |((refine zf 121 rfl ?_)
        (refine zb (some 121) (.string (bs key)) rfl (by rfl) (Z3 _ rfl (.slice A22 key.length C22) rfl _ _ HV2.out) ?_))
      |((refine zf 127 rfl ?_)
        (refine zb (some 127) (.string (bs root)) rfl (by rfl) (Z3 _ rfl (.slice A31 root.length C31) rfl _ _ HV3.out) ?_))
      |((refine zf 130 rfl ?_)
        (refine zb (some 130) (.string (bs root)) rfl (by rfl) (Z3 _ rfl (.slice A32 root.length C32) rfl _ _ HV4.out) ?_)))
     rw[←HW4.out];clear hc1 hc2' HV1 HV2 HV3 HV4;generalize hpb:wr.heap.size=pb at *;have hB4:Below W2.heap.size W2 W4:=Bz.trans (hb4.mono (by rw[←hpb];exact Bz.size))
     go_loopw [9] (λz wk=>∃(k:Nat),z= .int .i64 (k:Nat)∧k≤KL∧Below W4.heap.size W4 wk) (λz _=>KL-(intOf z).toNat)
     case atStart=>exact⟨0,rfl,Nat.zero_le _,Below.refl _ _⟩
     case round =>
      obtain⟨k,rfl,hk,Bk⟩:=hrel;have p2:=(Q1.below Bk Q1.lt).cell 2;have q2:=(Q2.below Bk Q2.lt).cell 2;have pl:=(Q1.below Bk Q1.lt).lt;have ql:=(Q2.below Bk Q2.lt).lt;simp only[jg,jd,jf]at p2 q2;by_cases hkl:k<KL
      ·have hkl':k<kids.length:=by rw[←HKL.out];exact hkl
       have hki:(k:Int)<(KL:Int):=by omega
       have hne:kids≠ []:=λe=>by rw[e]at hkl';cases hkl'
       obtain⟨b1,o1,rfl,hb1',-,hkc1⟩:=hI1.resolve_left hne;obtain⟨b2,o2,rfl,hb2',-,hkc2⟩:=hI2.resolve_left hne;have f1:=za Bk (hkc1 k hkl');have f2:=za Bk (hkc2 k hkl');have m1:b1<wr.heap.size:=Nat.lt_of_lt_of_le hb1' Bk.size;have m2:b2<wr.heap.size:=Nat.lt_of_lt_of_le hb2' Bk.size;generalize kids[k]=kv at *
       go_wp2
       go_quiet (fail)
       go_wp2
       go_roundw
       case rel=>exact⟨k+1,by go_num,by omega,jG Bk _⟩
       case measure=>simp[intOf];omega
      ·obtain rfl:KL=k:=by omega
       go_wp2
       go_roundw
       case rel=>exact⟨i+1,by go_num,by omega,hB4.trans (Bk.mono hB4.size)⟩
       case measure=>simp[intOf];omega
    ·obtain rfl:NP=i:=by omega
     go_wp2
     go_ret
     exact⟨rfl,hb2.trans (Bz.mono hb2.size)⟩
end
section
def Zz{α:Type}(R R':Except Er α):Prop:=(∃a,R= .ok a∧R'= .ok a)∨∃c k k',R= .error (c,k)∧R'= .error (c,k')
theorem Zz.ok{α:Type}(a:α):Zz (.ok a) (.ok a):= .inl ⟨a,rfl,rfl⟩
theorem Zz.err{α:Type}(c:Nat)(k k':Int):Zz (α:=α) (.error (c,k)) (.error (c,k')):= .inr ⟨c,k,k',rfl,rfl⟩
theorem Zz.ite{α:Type}(p:Prop)[Decidable p]{a a' b b':Except Er α}(h:Zz a a')(h':Zz b b'):Zz (if p then a else b) (if p then a' else b'):=by
 split
 ·exact h
 ·exact h'
theorem yM{x y:Nd}(h:qL x y):x.op=y.op:=by cases h;rfl
theorem Jf{x y:Nd}(h:qL x y):x.s=y.s:=by cases h;rfl
theorem xU{x y:Nd}(h:qL x y):x.n=y.n:=by cases h;rfl
theorem Zq{x y:Nd}(h:qL x y):AL x.l y.l:=by
 cases h with
 |mk o s n a b l l' hl hk=>exact AL.of_get hl hk
theorem UO:qL (.mk [] [] 0 0 []) (.mk [] [] 0 0 []):= .mk [] [] 0 0 0 [] [] rfl (λi h=>by cases h)
theorem xL{l m:List Nd}(h:AL l m)(k:Nat):qL (yy l k) (yy m k):=by
 unfold yy;rw[List.getD_eq_getElem?_getD,List.getD_eq_getElem?_getD];by_cases hk:k<l.length
 ·have hk':k<m.length:=by rw[←h.len];exact hk
  rw[List.getElem?_eq_getElem hk,List.getElem?_eq_getElem hk'];exact h.get k hk hk'
 ·rw[List.getElem?_eq_none (by omega),List.getElem?_eq_none (by have:=h.len;omega)]
  exact UO
theorem UW{x y:Nd}(h:qL x y):AL (jo x) (jo y):=by
 unfold jo;have:=Zq h;generalize x.l=l at *;generalize y.l=m at *
 induction this with
 |nil=>exact AL.nil
 |cons hx hl ih =>
  rename_i a b l m
  simp only[List.filter_cons,yM hx]
  split
  ·exact AL.cons hx ih
  ·exact ih
theorem JU(ns:xv){x y:Nd}(h:qL x y)(ws:List (List UInt8)):Zz (jj ns x ws) (jj ns y ws):=by
 unfold jj;rw[Jf h];cases lk ns y.s with
 |none=>exact .err _ _ _
 |some m=>exact .ite _ (.ok m) (.err _ _ _)
theorem KD(ps:List Pt){x y:Nd}(h:qL x y)(ks:List Nat):Zz (yN ps x ks) (yN ps y ks):=by
 unfold yN;rw[yM h];exact .ite _ (.err _ _ _) (.ite _ (.ite _ (.ok _) (.err _ _ _)) (.ite _ (.ok _) (.err _ _ _)))
theorem Km(ns:xv){x y:Nd}(h:qL x y)(z:Nat)(ks:List Nat):Zz (qN ns x z ks) (qN ns y z ks):=by
 have hk:=JU ns (xL (Zq h) 1);unfold qN;rw[yM h];refine .ite _ ?_ (.ite _ ?_ ?_)
 ·rcases hk [zT]with⟨m,e1,e2⟩|⟨c,k,k',e1,e2⟩
  ·rw[e1,e2];exact .ite _ (.err _ _ _) (.ok _)
  ·rw[e1,e2];exact .err _ _ _
 ·rcases hk [zT]with⟨m,e1,e2⟩|⟨c,k,k',e1,e2⟩
  ·rw[e1,e2];exact .ite _ (.err _ _ _) (.ok _)
  ·rw[e1,e2];exact .err _ _ _
 ·rcases hk [zD]with⟨m,e1,e2⟩|⟨c,k,k',e1,e2⟩
  ·rw[e1,e2];exact .ite _ (.err _ _ _) (.ok _)
  ·rw[e1,e2];exact .err _ _ _
theorem Dm(ns:xv)(ps:List Pt){x y:Nd}(h:qL x y)(ks:List Nat):Zz (jU ns ps x ks) (jU ns ps y ks):=by
 have n1:=xU (xL (Zq h) 1);have n2:=xU (xL (Zq h) 2);unfold jU;rw[n1,n2,yM h];exact .ite _ (.ite _ (.ok _) (.err _ _ _)) (.ite _ (KD ps h ks) (.ite _ (.ite _ (.err _ _ _) (.ite _ (.err _ _ _) (.ok _))) (Km ns h _ ks)))
theorem fK{f:List Pt→Nd→Except Er (Nat×List Pt)}(hf:∀x y,qL x y→∀ps,Zz (f ps x) (f ps y)){l m:List Nd}(h:AL l m):∀ps,Zz (jy f ps l) (jy f ps m):=by
 induction h with
 |nil=>intro ps;exact .ok _
 |cons hx hl ih =>
  intro ps;unfold jy;rcases hf _ _ hx ps with⟨⟨k,p1⟩,e1,e2⟩|⟨c,k,k',e1,e2⟩
  ·rw[e1,e2]
   simp only;rcases ih p1 with⟨⟨ks,p2⟩,e3,e4⟩|⟨c,k,k',e3,e4⟩
   ·rw[e3,e4];exact .ok _
   ·rw[e3,e4];exact .err _ _ _
  ·rw[e1,e2];exact .err _ _ _
theorem g5(ns:xv)(d:Nat):∀x y,qL x y→∀ps,Zz (jN ns d ps x) (jN ns d ps y):=by
 induction d with
 |zero=>intro x y h ps;exact .err _ _ _
 |succ d ih =>
  intro x y h ps;unfold jN;rw[yM h];refine .ite _ ?_ ?_
  ·rcases JU ns h [zc,zp]with⟨m,e1,e2⟩|⟨c,k,k',e1,e2⟩
   ·rw[e1,e2];exact .ok _
   ·rw[e1,e2];exact .err _ _ _
  rcases fK ih (UW h) ps with⟨⟨ks,p1⟩,e1,e2⟩|⟨c,k,k',e1,e2⟩
  ·rw[e1,e2]
   refine .ite _ (.err _ _ _) ?_;rcases Dm ns p1 h ks with⟨p,e3,e4⟩|⟨c,k,k',e3,e4⟩
   ·rw[e3,e4];exact .ok _
   ·rw[e3,e4];exact .err _ _ _
  ·rw[e1,e2];exact .err _ _ _
def DH(c c':Ck):Prop:=c'= { c with eat:=c'.eat }
theorem Dc{c c':Ck}(hc:DH c c'){x y:Nd}(h:qL x y):(∃a a' m,jX c x= .ok (a,m)∧jX c' y= .ok (a',m)∧DH a a')∨∃e k k',jX c x= .error (e,k)∧jX c' y= .error (e,k'):=by
 unfold DH at hc;rw[hc];generalize c'.eat=E;clear hc;unfold jX;rw[yM h,xU h,Jf (xL (Zq h) 0)]
 split
 ·split
  ·exact .inr ⟨_,_,_,rfl,rfl⟩
  ·split
   ·exact .inr ⟨_,_,_,rfl,rfl⟩
   ·exact .inl ⟨_,_,_,rfl,rfl,rfl⟩
 ·split
  ·split
   ·exact .inr ⟨_,_,_,rfl,rfl⟩
   ·exact .inl ⟨_,_,_,rfl,rfl,rfl⟩
  ·split
   ·split
    ·exact .inr ⟨_,_,_,rfl,rfl⟩
    ·exact .inl ⟨_,_,_,rfl,rfl,rfl⟩
   ·rcases g5 c.names 12 _ _ (xL (Zq h) 0) c.parts with⟨⟨k,ps⟩,e1,e2⟩|⟨e,k,k',e1,e2⟩
    ·rw[e1,e2];exact .inl ⟨_,_,_,rfl,rfl,rfl⟩
    ·rw[e1,e2];exact .inr ⟨_,_,_,rfl,rfl⟩
theorem fv{c c':Ck}(hc:DH c c'){x y:Nd}(h:qL x y):(∃a a',jH c x= .ok a∧jH c' y= .ok a'∧DH a a')∨∃e k k',jH c x= .error (e,k)∧jH c' y= .error (e,k'):=by
 have hn:c'.names=c.names:=by rw[hc]
 have hx:c'.expo=c.expo:=by rw[hc]
 have hp:c'.parts=c.parts:=by rw[hc]
 unfold jH;rw[yM h,Jf h,hn]
 split
 ·unfold yJ
  rw[hx,hn,hp,xU h]
  split
  ·exact .inr ⟨_,_,_,rfl,rfl⟩
  ·rcases JU c.names h [zc,zp]with⟨m,e1,e2⟩|⟨e,k,k',e1,e2⟩
   ·rw[e1,e2]
    refine .inl ⟨_,_,rfl,rfl,?_⟩;unfold DH at hc ⊢;rw[hc]
   ·rw[e1,e2];exact .inr ⟨_,_,_,rfl,rfl⟩
 ·split
  ·exact .inr ⟨_,_,_,rfl,rfl⟩
  ·split
   ·exact .inr ⟨_,_,_,rfl,rfl⟩
   ·rcases Dc hc h with⟨a,a',m,e1,e2,h3⟩|⟨e,k,k',e1,e2⟩
    ·rw[e1,e2]
     refine .inl ⟨_,_,rfl,rfl,?_⟩;unfold DH at h3 ⊢;rw[h3]
    ·rw[e1,e2];exact .inr ⟨_,_,_,rfl,rfl⟩
theorem GV{l m:List Nd}(h:AL l m):∀ {c c':Ck},DH c c'→(∃a a',jR c l= .ok a∧jR c' m= .ok a'∧DH a a')∨∃e k k',jR c l= .error (e,k)∧jR c' m= .error (e,k'):=by
 induction h with
 |nil=>intro c c' hc;exact .inl ⟨c,c',rfl,rfl,hc⟩
 |cons hx hl ih =>
  intro c c' hc;simp only[jR];rcases fv hc hx with⟨a,a',e1,e2,h3⟩|⟨e,k,k',e1,e2⟩
  ·rw[e1,e2];exact ih h3
  ·rw[e1,e2];exact .inr ⟨_,_,_,rfl,rfl⟩
theorem FS{l m:List Nd}(h:AL l m):∀d,qo d l=qo d m:=by
 induction h with
 |nil=>intro d;rfl
 |cons hx hl ih=>intro d;simp only[qo,yM hx,xU hx,ih]
theorem zaQ{n m:Nd}(h:qL n m):Zz (Kz n) (Kz m):=by
 have hl:=Zq h;unfold Kz;rw[FS hl];rcases GV hl (c:=⟨[],none,qo 0 m.l,none,false,0,[]⟩) (c':=⟨[],none,qo 0 m.l,none,false,0,[]⟩) rfl with⟨a,a',e1,e2,h3⟩|⟨e,k,k',e1,e2⟩
 ·rw[e1,e2]
  show Zz (vw a) (vw a');unfold DH at h3;rw[h3];generalize a'.eat=E;unfold vw;show Zz (match a.jour,a.expo with |some j,some x=>_|_,_=>_) (match a.jour,a.expo with |some j,some x=>_|_,_=>_);cases a.jour with
  |none=>exact .err _ _ _
  |some j =>
   cases a.expo with
   |none=>exact .err _ _ _
   |some x=>exact .ite _ (.err _ _ _) (.ite _ (.err _ _ _) (.ok _))
 ·rw[e1,e2];exact .err _ _ _
end
section
abbrev X4:=List (Tk×List UInt8)
def laid(L:X4):List UInt8:=L.flatMap λp=>Zx p.1++p.2
def xx(L:X4):List Tk:=L.map Prod.fst
def places(a:Nat):X4→zo
 | []=> []
 |p::L=>(p.1,a)::places (a+(Zx p.1).length+p.2.length) L
theorem Kj(a:Nat)(L:X4):Qq (places a L)=xx L:=by
 induction L generalizing a with
 |nil=>rfl
 |cons p L ih=>simp only[places,Qq,xx,List.map_cons,List.cons.injEq,true_and];exact ih _
inductive xK:X4→Prop where
 |nil:xK []
 |cons (t:Tk) (s:List UInt8) (L:X4):xw t→(s= []∨s= [32]∨s= [10])→(t.kind=3∨s≠ []∨∃u b L',L=(u,b)::L'∧u.kind=3)→xK L→xK ((t,s)::L)
theorem Xb{c:UInt8}(h:zN c=false):vn c=false:=by
 unfold zN at h;rw[Bool.or_eq_false_iff]at h;exact h.1
theorem Gh{c:UInt8}(h:zN c=false):zm c=false:=by
 unfold zN at h;rw[Bool.or_eq_false_iff]at h;exact h.2
theorem dh{c:UInt8}(h:zN c=false):zw c=false:=by
 have h1:=Xb h;have h2:=Gh h;unfold vn zP at h1;unfold zw;rw[h2];simp at h1 ⊢;intro h3;have:=h1.1 h3;omega
theorem Do{u v v':List UInt8}{t:Tk}(h:one (u++v)= .ok (t,u.length))(kW:∀c,v'.head?=some c→zN c=false):one (u++v')= .ok (t,u.length):=by
 cases u with
 |nil=>have:=(yV h).1;simp at this
 |cons c u =>
  simp only[List.cons_append]at h ⊢;simp only[one]at h ⊢
  split at h
  ·rename_i hc
   rw[if_pos hc]
   split at h
   ·cases h
   ·rename_i hl
    have hn:zE zN (c::(u++v))=(c::u).length:=by injection h with h;exact(Prod.mk.inj h).2
    obtain⟨a1,a2⟩:=Q0 (u:=c::u) (v:=v) hn;have hn':zE zN (c::(u++v'))=(c::u).length:=UE (u:=c::u) (v:=v') a1 kW;rw[hn]at h hl;rw[hn',if_neg hl];cases h;rw[←List.cons_append,List.take_left,←List.cons_append,List.take_left]
  ·rename_i hc
   rw[if_neg hc]
   split at h
   ·rename_i hf
    rw[if_pos hf]
    split at h
    ·cases h
    ·rename_i hl
     split at h
     ·cases h
     ·rename_i hlt
      have hn:zE zm (c::(u++v))=(c::u).length:=by injection h with h;exact(Prod.mk.inj h).2
      obtain⟨a1,a2⟩:=Q0 (u:=c::u) (v:=v) hn;have hn':zE zm (c::(u++v'))=(c::u).length:=UE (u:=c::u) (v:=v') a1 (λc hc=>Gh (kW c hc));rw[hn]at h hl hlt;rw[hn',if_neg hl];rw[←List.cons_append,List.drop_left]at hlt;have b2:∀c,v'.head?=some c→vn c=false:=λc hc=>Xb (kW c hc)
      rw[←List.cons_append,List.drop_left,K9 b2];cases h;rw[List.take_left,←List.cons_append,List.take_left];rfl
   ·rename_i hf
    rw[if_neg hf]
    split at h
    ·rename_i h36
     rw[if_pos h36]
     split at h
     ·cases h
     ·rename_i h0
      split at h
      ·cases h
      ·rename_i hl
       split at h
       ·cases h
       ·rename_i hlt
        have hn:zE zw (u++v)=u.length:=by injection h with h;have:=(Prod.mk.inj h).2;simpa using this
        obtain⟨a1,a2⟩:=Q0 hn;have hn':zE zw (u++v')=u.length:=UE a1 (λc hc=>dh (kW c hc));rw[hn]at h h0 hl hlt;rw[hn',if_neg h0,if_neg hl];rw[List.drop_left]at hlt;have b2:∀c,v'.head?=some c→vn c=false:=λc hc=>Xb (kW c hc)
        rw[List.drop_left,K9 b2];cases h;rw[List.take_left,List.take_left];rfl
    ·rename_i h36
     rw[if_neg h36]
     split at h
     ·rename_i hs
      rw[if_pos hs];exact h
     ·cases h
theorem XL{t:Tk}(h:xw t)(z:List UInt8)(hz:t.kind=3∨∀c,z.head?=some c→zN c=false):one (Zx t++z)= .ok (t,(Zx t).length):=by
 by_cases h3:t.kind=3
 ·obtain⟨c,e,hs,h1,h2,h4⟩:=h.sign h3
  obtain⟨k,s,n⟩:=t;simp only at h3 e;subst h3;have hn:n=0:=h.zero (by show(3:Nat)≠1;decide);subst hn;subst e;simp[Zx,one,hs,h1,h2,h4]
 ·rcases hz with h'|h'
  ·exact absurd h' h3
  ·exact Do (DS h []) h'
theorem dr{c:UInt8}(h:xX c=true):zN c=false:=by
 simp[xX]at h;rcases h with(((rfl|rfl)|rfl)|rfl)|rfl<;>decide
theorem gC{L:X4}{t:Tk}{s:List UInt8}(h:xK ((t,s)::L)):t.kind=3∨∀c,(s++laid L).head?=some c→zN c=false:=by
 cases h with
 |cons t s L hg hs hb hL =>
  rcases hb with h1|h1|⟨u,b,L',rfl,hu⟩
  ·exact .inl h1
  ·right
   intro c hc;rcases hs with rfl|rfl|rfl
   ·exact absurd rfl h1
   ·simp at hc;subst hc;decide
   ·simp at hc;subst hc;decide
  ·right
   intro c hc;rcases hs with rfl|rfl|rfl
   ·cases hL with
    |cons u b L' hgu _ _ _ =>
     obtain⟨d,e,hd,_⟩:=hgu.sign hu;have ht:Zx u= [d]:=by unfold Zx;rw[if_neg (by omega),if_neg (by omega),e]
     simp only[List.nil_append,laid,List.flatMap_cons,ht,List.cons_append,List.head?_cons,Option.some.injEq]at hc;subst hc;exact dr hd
   ·simp at hc;subst hc;decide
   ·simp at hc;subst hc;decide
theorem fO(L:X4):∀(f a k:Nat),xK L→k+L.length≤500→(laid L).length<f→ym f (laid L) a k= .ok (places a L):=by
 induction L with
 |nil=>intro f a k _ _ hf;cases f with
  |zero=>omega
  |succ f=>exact yg rfl
 |cons p L ih =>
  obtain⟨t,s⟩:=p;intro f a k h hk hf;have hh:=gC h;cases h with
  |cons t s L hg hs hb hL =>
  cases f with
  |zero=>omega
  |succ f =>
  have hc:laid ((t,s)::L)=Zx t++(s++laid L):=by simp[laid]
  have hs0:=XM (XO hg) (s++laid L);have h1:=XL hg (s++laid L) hh;have hpos:1≤(Zx t).length:=(yV h1).1;have hne:Zx t++(s++laid L)≠ []:=by intro e;rw[e]at h1;cases h1
  rw[hc]at hf ⊢;simp only[List.length_append]at hf;simp only[List.length_cons]at hk;rw[vC (by rw[hs0];exact hne) (by rw[hs0];exact h1) (by omega),hs0];simp only[Nat.zero_add,Nat.add_zero,List.drop_left]
  have hrest:ym f (s++laid L) (a+(Zx t).length) (k+1)= .ok (places (a+(Zx t).length+s.length) L):=by
   rcases hs with rfl|rfl|rfl
   ·simp only[List.nil_append,List.length_nil,Nat.add_zero]at hf ⊢
    exact ih f _ _ hL (by omega) (by omega)
   ·have hp:=Yn (f:=f) (g:=(laid L).length+1) (u:= [32]) (z:=laid L) (a+(Zx t).length) (k+1) (by simp[qJ,ja];omega) (by simp only[List.length_append];simp at hf ⊢;omega) (by omega)
    rw[hp];exact ih _ _ _ hL (by omega) (by omega)
   ·have hp:=Yn (f:=f) (g:=(laid L).length+1) (u:= [10]) (z:=laid L) (a+(Zx t).length) (k+1) (by simp[qJ,ja];omega) (by simp only[List.length_append];simp at hf ⊢;omega) (by omega)
    rw[hp];exact ih _ _ _ hL (by omega) (by omega)
  rw[hrest];rfl
end
section
open Go.Shelf
def Tryz.lays169_ren:Go.Shelf.Ren:=⟨λ |169=>39|n=>n,λ |70=>88|9=>9|0=>0|72=>90|37=>45|127=>130|3=>3|5=>5|n=>n,λ |n=>n⟩
theorem Tryz.lays169:Go.Proofs.Lays.n169 Tryz.prog Tryz.lays169_ren:={
 mixed:=by kernel_rfl
 f169:=Tryz.func39.trans (congrArg some (by kernel_rfl))
 t0:=Tryz.underlying0
 a0:=Tryz.isAgg0
 z0:=Tryz.sizeOf0
 v0:=Tryz.zeroValue0
 t3:=Tryz.underlying3
 a3:=Tryz.isAgg3
 z3:=Tryz.sizeOf3
 v3:=Tryz.zeroValue3
 t9:=Tryz.underlying9
 a9:=Tryz.isAgg9
 z9:=Tryz.sizeOf9
 v9:=Tryz.zeroValue9
 t37:=Tryz.underlying45
 a37:=Tryz.isAgg45
 z37:=Tryz.sizeOf45
 v37:=Tryz.zeroValue45
 t70:=Tryz.underlying88
 a70:=Tryz.isAgg88
 z70:=Tryz.sizeOf88
 v70:=Tryz.zeroValue88
 t72:=Tryz.underlying90
 a72:=Tryz.isAgg90
 z72:=Tryz.sizeOf90
 v72:=Tryz.zeroValue90
 t127:=Tryz.underlying130
 a127:=Tryz.isAgg130
 z127:=Tryz.sizeOf130
 v127:=Tryz.zeroValue130 }
theorem Tryz.Builder_Extra_169:Builder.Extra Tryz.prog Tryz.lays169_ren:={
 sizeBuilder:=by kernel_rfl
 liesBuilder:=by kernel_rfl
 t5:=Tryz.underlying5
 a5:=Tryz.isAgg5
 z5:=Tryz.sizeOf5
 v5:=Tryz.zeroValue5
 infoByte:=by kernel_rfl
 cellsByte:=by kernel_rfl
 sizeByte:=by kernel_rfl
 neB5:=by decide }
open Go.RowKit in
theorem Tryz.Builder_String_any(B b:Nat)(l:List UInt8)(w:World)(h:Lib.IsBuilder 90 5 B b (Lib.byteCells l) w)(hBw:B≤w.heap.size):
 Calls Tryz.prog 39 #[.pointer (some ⟨b,0,none⟩)] w λe w'=>e= .returned (.string ⟨l.toArray⟩)∧Below B w w':=Any.Builder_String_any Tryz.lays169 Tryz.Builder_Extra_169 B b l w h hBw
def Tryz.lays156_ren:Go.Shelf.Ren:=⟨λ |156=>109|165=>137|166=>37|169=>39|240=>69|241=>158|276=>107|277=>176|n=>n,λ |31=>104|9=>9|3=>3|4=>4|0=>0|20=>20|72=>90|76=>93|70=>88|37=>45|75=>92|127=>130|164=>151|5=>5|80=>96|n=>n,λ |n=>n⟩
theorem Tryz.lays156:Go.Proofs.Lays.n156 Tryz.prog Tryz.lays156_ren:={
 mixed:=by kernel_rfl
 f156:=Tryz.func109.trans (congrArg some (by kernel_rfl))
 f165:=Tryz.func137.trans (congrArg some (by kernel_rfl))
 f166:=Tryz.func37.trans (congrArg some (by kernel_rfl))
 f169:=Tryz.func39.trans (congrArg some (by kernel_rfl))
 f240:=Tryz.func69.trans (congrArg some (by kernel_rfl))
 f241:=Tryz.func158.trans (congrArg some (by kernel_rfl))
 f276:=Tryz.func107.trans (congrArg some (by kernel_rfl))
 f277:=Tryz.func176.trans (congrArg some (by kernel_rfl))
 t0:=Tryz.underlying0
 a0:=Tryz.isAgg0
 z0:=Tryz.sizeOf0
 v0:=Tryz.zeroValue0
 t3:=Tryz.underlying3
 a3:=Tryz.isAgg3
 z3:=Tryz.sizeOf3
 v3:=Tryz.zeroValue3
 t4:=Tryz.underlying4
 a4:=Tryz.isAgg4
 z4:=Tryz.sizeOf4
 v4:=Tryz.zeroValue4
 t9:=Tryz.underlying9
 a9:=Tryz.isAgg9
 z9:=Tryz.sizeOf9
 v9:=Tryz.zeroValue9
 t20:=Tryz.underlying20
 a20:=Tryz.isAgg20
 z20:=Tryz.sizeOf20
 v20:=Tryz.zeroValue20
 t31:=Tryz.underlying104
 a31:=Tryz.isAgg104
 z31:=Tryz.sizeOf104
 v31:=Tryz.zeroValue104
 t37:=Tryz.underlying45
 a37:=Tryz.isAgg45
 z37:=Tryz.sizeOf45
 v37:=Tryz.zeroValue45
 t70:=Tryz.underlying88
 a70:=Tryz.isAgg88
 z70:=Tryz.sizeOf88
 v70:=Tryz.zeroValue88
 t72:=Tryz.underlying90
 a72:=Tryz.isAgg90
 z72:=Tryz.sizeOf90
 v72:=Tryz.zeroValue90
 t75:=Tryz.underlying92
 a75:=Tryz.isAgg92
 z75:=Tryz.sizeOf92
 v75:=Tryz.zeroValue92
 t76:=Tryz.underlying93
 a76:=Tryz.isAgg93
 z76:=Tryz.sizeOf93
 v76:=Tryz.zeroValue93
 t127:=Tryz.underlying130
 a127:=Tryz.isAgg130
 z127:=Tryz.sizeOf130
 v127:=Tryz.zeroValue130
 t164:=Tryz.underlying151
 a164:=Tryz.isAgg151
 z164:=Tryz.sizeOf151
 v164:=Tryz.zeroValue151 }
theorem Tryz.Builder_Extra_156:Builder.Extra Tryz.prog Tryz.lays156_ren:={
 sizeBuilder:=by kernel_rfl
 liesBuilder:=by kernel_rfl
 t5:=Tryz.underlying5
 a5:=Tryz.isAgg5
 z5:=Tryz.sizeOf5
 v5:=Tryz.zeroValue5
 infoByte:=by kernel_rfl
 cellsByte:=by kernel_rfl
 sizeByte:=by kernel_rfl
 neB5:=by decide }
open Go.RowKit in
theorem Tryz.strings_Join_none(a:Option Addr)(c:Nat)(sep:ByteArray)(w:World):
 Calls Tryz.prog 109 #[.slice a 0 c,.string sep] w λe w'=>e= .returned (.string ⟨#[]⟩)∧w'=w:=Any.strings_Join_none Tryz.lays156 Tryz.Builder_Extra_156 a c sep w
open Go.RowKit in
theorem Tryz.strings_Join(bk o c:Nat)(xs:List ByteArray)(sep:ByteArray)(w:World)(hcells:∀(j:Nat) x,xs[j]?=some x→w.cell? ⟨bk,o+j,none⟩=some (.string x))(hbk:bk<w.heap.size)(hN:xs.length≤140737488355328)(hcap:xs.length≤c)(hlen:(Lib.join (xs.map (·.data.toList)) sep.data.toList).length≤140737488355328):
 Calls Tryz.prog 109 #[.slice (some ⟨bk,o,none⟩) xs.length c,.string sep] w λe w'=>e= .returned (.string ⟨(Lib.join (xs.map (·.data.toList)) sep.data.toList).toArray⟩)∧Below w.heap.size w w':=Any.strings_Join Tryz.lays156 Tryz.Builder_Extra_156 bk o c xs sep w hcells hbk hN hcap hlen
def Tryz.laysM171_ren:Go.Shelf.Ren:=⟨λ |171=>70|243=>108|246=>136|283=>154|284=>155|285=>156|286=>157|129=>172|317=>171|318=>173|319=>174|320=>175|337=>189|338=>190|n=>n,λ |3=>3|9=>9|2=>2|4=>4|171=>181|0=>0|53=>175|37=>45|5=>5|173=>184|212=>197|51=>198|20=>20|213=>199|46=>200|232=>217|233=>218|n=>n,λ |17=>0|18=>4|19=>5|n=>n⟩
theorem Tryz.laysM171:Go.Proofs.LaysM.n171 Tryz.prog Tryz.laysM171_ren:={
 mixed:=by kernel_rfl
 f129:=Tryz.func172.trans (congrArg some (by kernel_rfl))
 f171:=Tryz.func70.trans (congrArg some (by kernel_rfl))
 f243:=Tryz.func108.trans (congrArg some (by kernel_rfl))
 f246:=Tryz.func136.trans (congrArg some (by kernel_rfl))
 f283:=Tryz.func154.trans (congrArg some (by kernel_rfl))
 f284:=Tryz.func155.trans (congrArg some (by kernel_rfl))
 f285:=Tryz.func156.trans (congrArg some (by kernel_rfl))
 f286:=Tryz.func157.trans (congrArg some (by kernel_rfl))
 f317:=Tryz.func171.trans (congrArg some (by kernel_rfl))
 f318:=Tryz.func173.trans (congrArg some (by kernel_rfl))
 f319:=Tryz.func174.trans (congrArg some (by kernel_rfl))
 f320:=Tryz.func175.trans (congrArg some (by kernel_rfl))
 f337:=Tryz.func189.trans (congrArg some (by kernel_rfl))
 f338:=Tryz.func190.trans (congrArg some (by kernel_rfl))
 t0:=Tryz.underlying0
 a0:=Tryz.isAgg0
 z0:=Tryz.sizeOf0
 v0:=Tryz.zeroValue0
 t2:=Tryz.underlying2
 a2:=Tryz.isAgg2
 z2:=Tryz.sizeOf2
 v2:=Tryz.zeroValue2
 t3:=Tryz.underlying3
 a3:=Tryz.isAgg3
 z3:=Tryz.sizeOf3
 v3:=Tryz.zeroValue3
 t4:=Tryz.underlying4
 a4:=Tryz.isAgg4
 z4:=Tryz.sizeOf4
 v4:=Tryz.zeroValue4
 t5:=Tryz.underlying5
 a5:=Tryz.isAgg5
 z5:=Tryz.sizeOf5
 v5:=Tryz.zeroValue5
 t9:=Tryz.underlying9
 a9:=Tryz.isAgg9
 z9:=Tryz.sizeOf9
 v9:=Tryz.zeroValue9
 t20:=Tryz.underlying20
 a20:=Tryz.isAgg20
 z20:=Tryz.sizeOf20
 v20:=Tryz.zeroValue20
 t37:=Tryz.underlying45
 a37:=Tryz.isAgg45
 z37:=Tryz.sizeOf45
 v37:=Tryz.zeroValue45
 t46:=Tryz.underlying200
 a46:=Tryz.isAgg200
 z46:=Tryz.sizeOf200
 v46:=Tryz.zeroValue200
 t51:=Tryz.underlying198
 a51:=Tryz.isAgg198
 z51:=Tryz.sizeOf198
 v51:=Tryz.zeroValue198
 t53:=Tryz.underlying175
 a53:=Tryz.isAgg175
 z53:=Tryz.sizeOf175
 v53:=Tryz.zeroValue175
 t171:=Tryz.underlying181
 a171:=Tryz.isAgg181
 z171:=Tryz.sizeOf181
 v171:=Tryz.zeroValue181
 t173:=Tryz.underlying184
 a173:=Tryz.isAgg184
 z173:=Tryz.sizeOf184
 v173:=Tryz.zeroValue184
 t212:=Tryz.underlying197
 a212:=Tryz.isAgg197
 z212:=Tryz.sizeOf197
 v212:=Tryz.zeroValue197
 t213:=Tryz.underlying199
 a213:=Tryz.isAgg199
 z213:=Tryz.sizeOf199
 t232:=Tryz.underlying217
 a232:=Tryz.isAgg217
 z232:=Tryz.sizeOf217
 v232:=Tryz.zeroValue217
 t233:=Tryz.underlying218
 a233:=Tryz.isAgg218
 z233:=Tryz.sizeOf218
 v233:=Tryz.zeroValue218
 g17:=by kernel_rfl
 g18:=by kernel_rfl
 g19:=by kernel_rfl
 i0:=by kernel_rfl
 i2:=by kernel_rfl
 i3:=by kernel_rfl
 i4:=by kernel_rfl
 i5:=by kernel_rfl
 i9:=by kernel_rfl
 i20:=by kernel_rfl
 i37:=by kernel_rfl
 i46:=by kernel_rfl
 i51:=by kernel_rfl
 i53:=by kernel_rfl
 i171:=by kernel_rfl
 i173:=by kernel_rfl
 i212:=by kernel_rfl
 i232:=by kernel_rfl
 i233:=by kernel_rfl
 m17:=by kernel_rfl
 m18:=by kernel_rfl
 m19:=by kernel_rfl }
open Go.RowKit Go.Sort Go.Lib in
theorem Tryz.strconv_Itoa(n:Int)(h0: -9223372036854775808≤n)(h1:n≤9223372036854775807)(w:World)(htab:Lib.TabIs Tryz.prog w "internal/strconv.uint64pow10" .u64 Lib.pow10Tab):
 Calls Tryz.prog 70 #[.int .i64 n] w λe w'=>e= .returned (.string ⟨(Lib.itoa n).toArray⟩)∧∃k os,w'=grow (w.drewN k) os:=Any.strconv_Itoa Tryz.laysM171 n h0 h1 w htab
theorem Tryz.lays166:Go.Proofs.Lays.n166 Tryz.prog Tryz.lays156_ren:={
 mixed:=Tryz.lays156.mixed
 f166:=Tryz.lays156.f166
 f240:=Tryz.lays156.f240
 f276:=Tryz.lays156.f276
 t0:=Tryz.lays156.t0
 a0:=Tryz.lays156.a0
 z0:=Tryz.lays156.z0
 v0:=Tryz.lays156.v0
 t3:=Tryz.lays156.t3
 a3:=Tryz.lays156.a3
 z3:=Tryz.lays156.z3
 v3:=Tryz.lays156.v3
 t4:=Tryz.lays156.t4
 a4:=Tryz.lays156.a4
 z4:=Tryz.lays156.z4
 v4:=Tryz.lays156.v4
 t9:=Tryz.lays156.t9
 a9:=Tryz.lays156.a9
 z9:=Tryz.lays156.z9
 v9:=Tryz.lays156.v9
 t20:=Tryz.lays156.t20
 a20:=Tryz.lays156.a20
 z20:=Tryz.lays156.z20
 v20:=Tryz.lays156.v20
 t37:=Tryz.lays156.t37
 a37:=Tryz.lays156.a37
 z37:=Tryz.lays156.z37
 v37:=Tryz.lays156.v37
 t70:=Tryz.lays156.t70
 a70:=Tryz.lays156.a70
 z70:=Tryz.lays156.z70
 v70:=Tryz.lays156.v70
 t72:=Tryz.lays156.t72
 a72:=Tryz.lays156.a72
 z72:=Tryz.lays156.z72
 v72:=Tryz.lays156.v72
 t75:=Tryz.lays156.t75
 a75:=Tryz.lays156.a75
 z75:=Tryz.lays156.z75
 v75:=Tryz.lays156.v75
 t164:=Tryz.lays156.t164
 a164:=Tryz.lays156.a164
 z164:=Tryz.lays156.z164
 v164:=Tryz.lays156.v164 }
end
section
open Go.ChangeShapes Go.WideShapes Go.ChangeAt Go.RowKit
def qD:Nat→Nd→List UInt8
 |0,_=> []
 |f+1,n=>if n.op=j8∨n.op=js then n.s else if n.op=vk then Lib.itoa n.n else n.op++ [40]++Lib.join (n.l.map (qD f)) [44,32]++ [41]
def VX:Nat→Nd→Prop
 |0,_=>False
 |f+1,n=>(n.op=j8∨n.op=js)∨(¬(n.op=j8∨n.op=js)∧n.op=vk∧j2 n.n=true)∨(¬(n.op=j8∨n.op=js)∧n.op≠vk∧∀x ∈ n.l,VX f x)
def JX(w:World):Prop:=Lib.TabIs Tryz.prog w "internal/strconv.uint64pow10" .u64 Lib.pow10Tab
theorem JX.below{w w':World}(h:JX w)(hb:Below w.heap.size w w'):JX w':=by
 unfold JX Lib.TabIs World.var? at h ⊢;generalize Tryz.prog.globalNamed "internal/strconv.uint64pow10" =G at h ⊢;cases G with
 |none=>simp at h
 |some g =>
  simp only[Option.bind_some]at h ⊢
  have hlt:g<w.heap.size:=by
   rcases Nat.lt_or_ge g w.heap.size with h'|h'
   ·exact h'
   ·rw[Array.getElem?_eq_none h']at h;cases h
  rw[hb.block g hlt];exact h
theorem fx{xs:List (List UInt8)}{x sep:List UInt8}(h:x ∈ xs):x.length≤(Lib.join xs sep).length:=by
 induction xs with
 |nil=>cases h
 |cons y r ih =>
  rw[Lib.join_cons];rcases List.mem_cons.1 h with rfl|h'
  ·simp
  ·have h2:x.length≤(Lib.joinTail sep r).length:=by
    clear ih h;unfold Lib.joinTail
    induction r with
    |nil=>cases h'
    |cons z r ih =>
     simp only[List.map_cons,List.flatten_cons,List.length_append];rcases List.mem_cons.1 h' with rfl|h3
     ·omega
     ·have:=ih h3;omega
   simp only[List.length_append];omega
theorem kC(w:World)(k:Nat)(os:Array Obj):Below w.heap.size w (Go.Sort.grow (w.drewN k) os):=
 ⟨rfl,rfl,rfl,by simp[Go.Sort.grow],λi hi=>by simp[Go.Sort.grow,Array.getElem?_append_left hi]⟩
theorem kE(n:Int)(w:World)(h:JX w)(hn:j2 n=true):Calls Tryz.prog 70 #[.int .i64 n] w λe w'=>e= .returned (.string (bs (Lib.itoa n)))∧Below w.heap.size w w':=by
 unfold j2 at hn;simp only[Bool.and_eq_true,decide_eq_true_eq]at hn;refine(Tryz.strconv_Itoa n (by omega) (by omega) w h).mono ?_;rintro e w' ⟨rfl,k,os,rfl⟩;exact⟨rfl,kC _ _ _⟩
def QW(w:World)(base:Nat)(v:Value)(l:List (List UInt8)):Prop:=w.ownsRow base 9 1 v l.length (l.map λx=>Value.string (bs x))
theorem QW.nil(w:World)(base:Nat):QW w base (.slice none 0 0) []:=⟨rfl,.inl ⟨rfl,rfl⟩⟩
theorem QW.below{w w':World}{base:Nat}{v:Value}{l:List (List UInt8)}(h:QW w base v l)(hb:Below w.heap.size w w'):QW w' base v l:=
 zI h (λg o e ho=>(hb.block g (qy h e).1).trans ho)
theorem QW.slice{w:World}{base:Nat}{v:Value}{l:List (List UInt8)}(h:QW w base v l):∃A C,v= .slice A l.length C:=by
 rcases h.2 with⟨rfl,h0⟩|⟨g,cap,cur,rfl,_⟩
 ·exact⟨none,0,by rw[h0]⟩
 ·exact⟨_,_,rfl⟩
theorem Tryz.infoStr:(Tryz.prog.info? 9).map (λi=>(i.zero,i.size,i.bytes))=some (some (.string ⟨#[]⟩),1,16):=by kernel_rfl
theorem Qz{ops:Array Oper}{rest:List Oper}{o:Oper}{a:Act}{w:World}{Q:Exit→Act→World→Prop}(hgd:o.guard=none)(s x:Operand)
 (ho:o.op= .call { callee:= .builtin .append,args:=#[s,x],argTypes:=#[104,104] }) (base:Nat) (v:Value) (l:List (List UInt8)) (hs:a.eval s=v) (hown:QW w base v l)
 (G:Nat) (t:List UInt8) (hx:a.eval x= .slice (some ⟨G,0,none⟩) 1 1) (hG:ze w G 9 #[.string (bs t)]) (hn:l.length≤1000000000) (hbase:base≤w.heap.size)
 (h:∀v' w',QW w' base v' (l++ [t])→Below base w w'→wpList Tryz.prog ops Q rest (a.put o.dst v') w'):wpList Tryz.prog ops Q (o::rest) a w:=by
 obtain⟨i0,hi,hz0,hz1,hz2⟩:=info_parts Tryz.infoStr;refine wpList_append_own w hgd s x 104 ho base 9 i0 (.string ⟨#[]⟩) 1 16 Tryz.underlying104 hi hz0 hz1 hz2 rfl (by decide) v l.length (l.map λx=>Value.string (bs x)) hs hown ⟨G,0,none⟩ 1 1 [.string (bs t)] hx rfl ?_ ?_ (by unfold maxLen;omega) (by omega) hbase ?_
 ·intro j u hj
  have:=hG.cell j;rw[show(⟨G,0,none⟩:Addr).add j=⟨G,j,none⟩ by simp[Addr.add];omega];rw[this]
  simpa using hj
 ·intro u hu
  rw[List.mem_singleton.1 hu];rfl
 ·intro v' w' h1 h2 _
  refine h v' w' ?_ (Z6 hown h2 hbase);show w'.ownsRow base 9 1 v' (l++ [t]).length _;rw[List.length_append,List.map_append];exact h1
theorem zaW(w:World)(base:Nat)(A:Option Addr)(C:Nat)(l:List (List UInt8))(h:QW w base (.slice A l.length C) l)(hl:(Lib.join l [44,32]).length≤1000000000)(hn:l.length≤1000000000):Calls Tryz.prog 109 #[.slice A l.length C,.string ⟨#[44,32]⟩] w λe w'=>e= .returned (.string (bs (Lib.join l [44,32])))∧Below w.heap.size w w':=by
 have hnil:∀A,l= []→Calls Tryz.prog 109 #[.slice A l.length C,.string ⟨#[44,32]⟩] w λe w'=>e= .returned (.string (bs (Lib.join l [44,32])))∧Below w.heap.size w w':=by
  rintro A rfl;exact(Tryz.strings_Join_none A C ⟨#[44,32]⟩ w).mono λe w' ⟨h1,h2⟩=>⟨h1,by rw[h2];exact Below.refl _ _⟩
 rcases h.2 with⟨e,h0⟩|⟨g,cap,cur,e,_,hg,hn1,hm,hsz,ht⟩
 ·exact hnil A (List.length_eq_zero_iff.1 h0)
 ·cases e
  have hd:(l.map bs).map (·.data.toList)=l:=by rw[List.map_map];conv=>rhs;rw[←List.map_id l]
                                               apply List.map_congr_left;intro x _;simp[bs]
  have hj:=Tryz.strings_Join g 0 C (l.map bs) ⟨#[44,32]⟩ w ?_ (Array.getElem?_eq_some_iff.1 hg).1 (by rw[List.length_map];omega) (by rw[List.length_map];exact hn1) (by rw[hd];exact Nat.le_trans hl (by decide))
  ·rw[hd,List.length_map]at hj
   exact hj
  ·intro j x hx
   have hlt:j<l.length:=by
    rcases Nat.lt_or_ge j l.length with h'|h'
    ·exact h'
    ·rw[List.getElem?_map,List.getElem?_eq_none h']at hx;cases hx
   rw[Nat.zero_add,cell_of_row w g j cur 9 _ hg]
   have h2:(l.map λx=>Value.string (bs x))[j]?=some (.string x):=by
    rw[List.getElem?_map]at hx ⊢;rw[List.getElem?_eq_getElem hlt]at hx ⊢;simp only[Option.map_some,Option.some.injEq]at hx ⊢;rw[hx]
   rw[←ht,List.getElem?_take_of_lt (by omega),Array.getElem?_toList]at h2;exact h2
theorem zA{o:Oper}{a:Act}(x y:Operand)(ho:o.op= .binOp .add 9 x y 9)(p q:ByteArray)(hx:a.eval x= .string p)(hy:a.eval y= .string q)(hz:p.size+q.size≤4000000000)(w:World):(execOp a.eval o).run Tryz.prog w= .ok (.value (.string (p++q))) w:=by
 have h1:(p.size:Int)+(q.size:Int)≤4000000000:=by omega
 unfold execOp;simp only[ho,hx,hy];go_simp;omega
theorem J3{o:Oper}{a:Act}(x:Operand)(ho:o.op= .fieldAddr 24 x 0)(g:Nat)(hx:a.eval x= .pointer (some ⟨g,0,none⟩))(w:World):(execOp a.eval o).run Tryz.prog w= .ok (.value (.pointer (some ⟨g,0,none⟩))) w:=by
 unfold execOp;simp only[ho,hx];go_simp
def DK:Nat→Nd→Prop
 |0,_=>True
 |f+1,n=>n.l.length≤1000000000∧∀x ∈ n.l,DK f x
theorem zaD(f:Nat):∀(n:Nd) (A:Option Addr) (C:Nat) (w:World),jZ w n A C→JX w→VX f n→(qD f n).length≤1000000000→DK f n→Calls Tryz.prog 71 #[.agg (zR n (.slice A n.l.length C))] w λe w'=>e= .returned (.string (bs (qD f n)))∧Below w.heap.size w w':=by
 induction f with
 |zero=>intro n A C w h ht hx;exact absurd hx (by simp[VX])
 |succ f ih =>
  intro n A C w h ht hx hz hfw;have hnl:n.l.length≤1000000000:=hfw.1;have HKL:Hid (∀x ∈ n.l,DK f x):=hfw.2;clear hfw;have hlen:=h.len;have ho:=zx n.op
  obtain⟨L,hL⟩:∃L,L=n.l.length:=⟨_,rfl⟩
  have HL:Hid (L=n.l.length):=hL;have hL2:L≤1000000000:=by omega
  rcases hx with h1|⟨h1,h2,h3⟩|⟨h1,h2,h3⟩
  ·have e1:qD (f+1) n=n.s:=if_pos h1
   rw[e1,←hL];unfold zR;clear h ih hz hlen hnl hL ht e1;rcases h1 with h1|h1
   ·have t1:(n.op== [117,115,101])=true:=by rw[h1];rfl
    clear h1;go_enter Tryz.func71,Tryz.ntmps71
    go_wp2
    go_ret
    exact⟨rfl,zd _ _⟩
   ·have t1:(n.op== [117,115,101])=false:=by rw[h1];rfl
    have t2:(n.op== [110,97,109,101])=true:=by rw[h1];rfl
    clear h1;go_enter Tryz.func71,Tryz.ntmps71
    go_wp2
    go_ret
    exact⟨rfl,zd _ _⟩
  ·have e1:qD (f+1) n=Lib.itoa n.n:=(if_neg h1).trans (if_pos h2)
   have hit:=λW hW=>kE n.n W (ht.below hW) h3
   rw[e1,←hL];generalize Lib.itoa n.n=X at hit ⊢;unfold zR;have t1:(n.op== [117,115,101])=false:=by rw[h2];rfl
   have t2:(n.op== [110,97,109,101])=false:=by rw[h2];rfl
   have t3:(n.op== [110,117,109])=true:=by rw[h2];rfl
   clear h ih hz hlen hnl hL ht e1 h1 h2 h3;generalize n.n=M at *;go_enter Tryz.func71,Tryz.ntmps71
   go_wp2_with (go_at_call 70;refine(hit _ (zd _ _)).mono ?_;rintro e w1 ⟨rfl,hb1⟩)
   go_ret
   exact⟨rfl,(zd w _).trans (hb1.mono (by simp))⟩
  ·have e1:qD (f+1) n=n.op++ [40]++Lib.join (n.l.map (qD f)) [44,32]++ [41]:=(if_neg h1).trans (if_neg h2)
   rw[e1]at hz;rw[e1,←hL];have hjz:(Lib.join (n.l.map (qD f)) [44,32]).length≤1000000000:=by simp only[List.length_append]at hz;omega
   have hoz:n.op.length≤1000000000:=by simp only[List.length_append]at hz;omega
   have hkz:∀x ∈ n.l,(qD f x).length≤1000000000:=λx hx=>Nat.le_trans (fx (List.mem_map.2 ⟨x,hx,rfl⟩)) hjz
   have t1:(n.op== [117,115,101])=false:=by rw[beq_eq_false_iff_ne];exact λe=>h1 (.inl e)
   have t2:(n.op== [110,97,109,101])=false:=by rw[beq_eq_false_iff_ne];exact λe=>h1 (.inr e)
   have t3:(n.op== [110,117,109])=false:=by rw[beq_eq_false_iff_ne];exact h2
   have hrd:=h;rw[show(zR n (.slice A L C))= #[.string (bs n.op),.string (bs n.s),.int .i64 n.n,.int .i64 n.a,.slice A L C]from rfl];clear e1 h1 h2 hnl hL hz;go_enter Tryz.func71,Tryz.ntmps71
   go_wp2
   obtain⟨W1,hW1⟩:∃W,W=w.alloc (.cells #[.string (bs n.op),.string (bs n.s),.int .i64 n.n,.int .i64 n.a,.slice A L C] 24):=⟨_,rfl⟩
   have hb1:Below w.heap.size w W1:=by rw[hW1];exact zd _ _
   have hN1:ze W1 w.heap.size 24 #[.string (bs n.op),.string (bs n.s),.int .i64 n.n,.int .i64 n.a,.slice A L C]:=by rw[hW1];exact ze.new _ _ _
   rw[←hW1];clear hW1
   go_loopw [3,21] (λv z wz=>∃i:Nat,i≤L∧z= .int .i64 (i:Nat)∧Below W1.heap.size W1 wz∧QW wz W1.heap.size v ((n.l.take i).map (qD f))) (λ_ z _=>L-(intOf z).toNat)
   case atStart=>exact⟨0,Nat.zero_le _,rfl,Below.refl _ _,QW.nil _ _⟩
   case round =>
    obtain⟨i,hi,rfl,hbz,hrow⟩:=hrel;have hbwr:Below w.heap.size w wr:=hb1.trans (hbz.mono hb1.size);obtain⟨A3,C3,rfl⟩:=hrow.slice;by_cases hiL:i<L
    ·have hiL2:(i:Int)<(L:Int):=by omega
     have hiL':i<n.l.length:=by rw[←HL.out];exact hiL
     have hR:=(hrd.grow hbwr).rd;rw[←HL.out]at hR;obtain⟨g,off,u,rfl,hg,hc,hru,hsu,hou⟩:=hR.get i hiL'
     obtain⟨m,hm⟩:∃m,m=n.l[i]:=⟨_,rfl⟩
     have hmem:m ∈ n.l:=by rw[hm];exact List.getElem_mem hiL'
     rw[←hm]at hc hru hsu hou;obtain⟨Au,Cu,rfl,hu1,hu2⟩:=hru.slice;have d0:=hc 0 (by decide);have d1:=hc 1 (by decide);have d2:=hc 2 (by decide);have d3:=hc 3 (by decide);have d4:=hc 4 (by decide);simp only[Nat.add_zero]at d0;simp only[zR]at d0 d1 d2 d3 d4;have hml:=HKL.out m hmem;have htx:=λW hW=>ih m Au Cu W (jZ.grow (w:=wr) ⟨hru,hsu,hou⟩ hW) ((ht.below hbwr).below hW) (h3 m hmem) (hkz m hmem) hml
     unfold zR at htx;have hnx:(n.l.take (i+1)).map (qD f)=(n.l.take i).map (qD f)++ [qD f m]:=by rw[List.take_succ_eq_append_getElem hiL',List.map_append,hm];rfl
     have HNX:Hid ((n.l.take (i+1)).map (qD f)=(n.l.take i).map (qD f)++ [qD f m]):=hnx;generalize qD f m=X at htx HNX;have hll:((n.l.take i).map (qD f)).length≤1000000000:=by simp;omega
     generalize (n.l.take i).map (qD f)=ls at hrow HNX hll;clear hnx hm hc hR ih h3 hkz hmem
     go_wp2_with (first
      |((go_at_call 71)
        refine(htx _ (zd _ _)).mono ?_;rintro e w4 ⟨rfl,hb4⟩;have hb4':Below wr.heap.size wr w4:=(zd wr _).trans (hb4.mono (by simp));(have hrw:QW (w4.alloc (.cells #[.string (bs X)] 9)) W1.heap.size (.slice A3 ls.length C3) ls:=(hrow.below hb4').below (zd _ _)))
      |((refine zf 29 rfl ?_)
        refine Qz rfl _ _ rfl W1.heap.size _ ls rfl hrw w4.heap.size X rfl (ze.new _ _ _) hll (by have:=hbz.size;have:=hb4'.size;simp;omega) ?_;(intro v6 w6 hr6 hb6)))
     go_roundw
     case rel=>exact⟨i+1,by omega,by go_num,((hbz.trans (hb4'.mono hbz.size)).alloc (by have:=hbz.size;have:=hb4'.size;omega) _).trans hb6,by rw[HNX.out];exact hr6⟩
     case measure=>simp[intOf];omega
    ·have hiL2:i=L:=by omega
     subst hiL2;have hta:(n.l.take i).map (qD f)=n.l.map (qD f):=by rw[HL.out,List.take_length]
     rw[hta]at hrow ⊢;have hll:(n.l.map (qD f)).length=i:=by rw[List.length_map,←HL.out]
     have HLL:Hid ((n.l.map (qD f)).length=i):=hll;generalize hJ:n.l.map (qD f)=ls at hrow hjz HLL ⊢;have hN2:=hN1.below hbz hN1.lt;have hjc:=λW hW=>zaW W W1.heap.size A3 C3 ls (hrow.below hW) hjz (by rw[HLL.out];omega)
     obtain⟨X,hX⟩:∃X,X=Lib.join ls [44,32]:=⟨_,rfl⟩
     rw[←hX]at hjc hjz;have HX:Hid (X=Lib.join (n.l.map (qD f)) [44,32]):=by rw[hJ];exact hX
     have hXs:=zi X;have hOs:=zi n.op;clear ih h3 hkz hta hll hX hJ
     obtain⟨LL,hLL⟩:∃LL,LL=ls.length:=⟨_,rfl⟩
     rw[←hLL]at hjc ⊢;clear hLL hrow
     go_wp2
     refine vu (S:=λW=>ze W w.heap.size 24 #[.string (bs n.op),.string (bs n.s),.int .i64 n.n,.int .i64 n.a,.slice A i C]) 7 (by kernel_rfl) hN2 (λhHeld=>?_);refine yT 0 [1,2,5,6] (some 31) (.pointer (some ⟨w.heap.size,0,none⟩)) rfl rfl (by decide) (by kernel_rfl) (by kernel_rfl) (by kernel_rfl) (by kernel_rfl) (by kernel_rfl) (λ_ _ _ h=>h) (by rfl) (λwz _=>J3 _ rfl _ rfl wz) hHeld ?_;simp only[Act.put,zk,zj,zl];refine yT 1 [2,5,6] (some 32) (.string (bs n.op)) rfl rfl (by decide) (by kernel_rfl) (by kernel_rfl) (by kernel_rfl) (by kernel_rfl) (by kernel_rfl) (λ_ _ _ h=>h) (by rfl) (λwz hz=>yi _ _ rfl (.inl rfl) _ rfl _ _ (hz.cell 0)) hHeld ?_;simp only[Act.put,zk,zj,zl];refine yT 2 [5,6] (some 33) (.string (bs n.op++⟨#[40]⟩)) rfl rfl (by decide) (by kernel_rfl) (by kernel_rfl) (by kernel_rfl) (by kernel_rfl) (by kernel_rfl) (λ_ _ _ h=>h) (by rfl) (λwz _=>zA _ _ rfl _ _ rfl rfl (by show(bs n.op).size+1≤_;omega) wz) hHeld ?_;simp only[Act.put,zk,zj,zl];refine yT 3 [4,5,6] (some 34) (.slice A3 LL C3) rfl rfl (by decide) (by kernel_rfl) (by kernel_rfl) (by kernel_rfl) (by kernel_rfl) (by kernel_rfl) (λ_ _ _ h=>h) (by rfl) (λ_ _=>rfl) hHeld ?_;simp only[Act.put,zk,zj,zl];refine fu 4 (some 35) 109 #[.slice A3 LL C3,.string ⟨#[44,32]⟩] (by kernel_rfl) rfl rfl (by rfl) (by kernel_rfl) (hjc wr.drew (zu (Below.refl _ _))) ?_;rintro e w4 ⟨rfl,hb4⟩
     have hb4':Below wr.heap.size wr w4:=⟨hb4.os,hb4.tape,hb4.output,hb4.size,hb4.block⟩
     refine⟨_,rfl,hN2.below hb4' hN2.lt,?_⟩;have hHeld:=hN2.below hb4' hN2.lt;simp only[Act.put,zk,zj,zl];refine yT 5 [6] (some 36) (.string (bs n.op++⟨#[40]⟩++bs X)) rfl rfl (by decide) (by kernel_rfl) (by kernel_rfl) (by kernel_rfl) (by kernel_rfl) (by kernel_rfl) (λ_ _ _ h=>h) (by rfl) (λwz _=>zA _ _ rfl _ _ rfl rfl (by rw[ByteArray.size_append];show(bs n.op).size+1+_≤_;omega) wz) hHeld ?_;simp only[Act.put,zk,zj,zl];refine vK 6 (some 37) (.string (bs n.op++⟨#[40]⟩++bs X++⟨#[41]⟩)) rfl rfl (λwz _=>zA _ _ rfl _ _ rfl rfl (by rw[ByteArray.size_append,ByteArray.size_append];show(bs n.op).size+1+_+1≤_;omega) wz) hHeld ?_;simp only[Act.put,zk,zj,zl];refine XD 7 (some 2) (.string (bs n.op++⟨#[40]⟩++bs X++⟨#[41]⟩)) (by kernel_rfl) rfl rfl (by rfl) (by rfl) (by kernel_rfl) ?_;simp only[Act.put,zk,zj,zl]
     go_wp2
     go_ret
     refine⟨?_,hbwr.trans (hb4'.mono hbwr.size)⟩;rw[←HX.out,show(⟨#[40]⟩:ByteArray)=bs [40]from rfl,show(⟨#[41]⟩:ByteArray)=bs [41]from rfl,qE,qE,qE];rfl
def vE(n:Nd):List UInt8:=
 if n.op=zc∨n.op=zg then 32::Lib.itoa n.n
 else if n.op=zT∨n.op=zD then[32,36]++(n.l.getD 0 (.mk [] [] 0 0 [])).s
 else if n.op=zp then[32,61,32]++qD 13 (n.l.getD 0 (.mk [] [] 0 0 []))
 else if n.op=zv∧n.n=1 then 32::zO
 else[]
def qP(n:Nd):List UInt8:=n.op++ [32]++n.s++vE n++ [59,10]
def printed(n:Nd):List UInt8:=n.l.flatMap qP
theorem VV(k:Nat):∀n,n<10 ^ (k+1)→(Lib.decDigits n).length≤k+1:=by
 induction k with
 |zero=>intro n h;rw[Lib.decDigits,dif_pos (by simpa using h)];simp
 |succ k ih =>
  intro n h;rw[Lib.decDigits]
  split
  ·simp
  ·have:=ih (n / 10) (by rw[Nat.pow_succ]at h;omega)
   simp;omega
theorem Ky{n:Int}(h:j2 n=true):(Lib.itoa n).length≤9:=by
 unfold j2 at h;simp only[Bool.and_eq_true,decide_eq_true_eq]at h;unfold Lib.itoa;rw[if_neg (by omega)];exact VV 8 _ (by simp;omega)
structure VQ (n:Nd):Prop where
 s:n.s.length≤1000000000
 num:(n.op=zc∨n.op=zg)→j2 n.n=true
 hex:(n.op=zT∨n.op=zD)→∃m,n.l= [m]∧m.s.length≤1000000000
 vol:n.op=zp→∃m,n.l= [m]∧VX 13 m∧(qD 13 m).length≤1000000000∧DK 13 m
theorem Xd(s:List UInt8)(M at_:Int)(l:List Nd)(A:Option Addr)(C:Nat)(w:World)(h:jZ w (.mk zc s M at_ l) A C)(ht:JX w)(hk:VQ (.mk zc s M at_ l)):
 Calls Tryz.prog 38 #[.agg (zR (.mk zc s M at_ l) (.slice A l.length C))] w λe w'=>e= .returned (.string (bs (qP (.mk zc s M at_ l))))∧Below w.heap.size w w':=by
 have hs:s.length≤1000000000:=hk.s;have hn:j2 M=true:=hk.num (by first |exact .inl rfl|exact .inr rfl);have hE:qP (.mk zc s M at_ l)=zc++ [32]++s++([32]++Lib.itoa M)++ [59,10]:=by show _++vE _++_=_;rw[show vE (.mk zc s M at_ l)=32::Lib.itoa M from if_pos (by first |exact .inl rfl|exact .inr rfl)];rfl
 have hit:=λW hW=>kE M W (ht.below hW) hn
 have hil:=Ky hn;rw[hE];generalize Lib.itoa M=X at *;unfold zR;simp only[Nd.op,Nd.s,Nd.n,Nd.a,xu];generalize l.length=L;clear h hk ht hE hn;have hwl:zc.length≤20:=by decide
 have hwr:zO.length=8:=by decide
 obtain⟨P6,q6⟩:∃P,P=zc++ [32]:=⟨_,rfl⟩
 have z6:P6.length≤100:=by have e:=congrArg List.length q6;simp at e;omega
 have Q6:Hid (P6=zc++ [32]):=q6
 obtain⟨P9,q9⟩:∃P,P=P6++s:=⟨_,rfl⟩
 have z9:P9.length≤1100000000:=by have e:=congrArg List.length q9;simp at e;omega
 have Q9:Hid (P9=P6++s):=q9
 obtain⟨P19,q19⟩:∃P,P= [32]++X:=⟨_,rfl⟩
 have z19:P19.length≤100000000:=by have e:=congrArg List.length q19;simp at e;omega
 have Q19:Hid (P19= [32]++X):=q19
 obtain⟨P20,q20⟩:∃P,P=P9++P19:=⟨_,rfl⟩
 have z20:P20.length≤1200000000:=by have e:=congrArg List.length q20;simp at e;omega
 have Q20:Hid (P20=P9++P19):=q20
 obtain⟨P50,q50⟩:∃P,P=P20++ [59,10]:=⟨_,rfl⟩
 have z50:P50.length≤2400000000:=by have e:=congrArg List.length q50;simp at e;omega
 have Q50:Hid (P50=P20++ [59,10]):=q50;have HF:Hid (P50=zc++ [32]++s++([32]++X)++ [59,10]):=by show _=_;rw[q50,q20,q19,q9,q6]
 rw[←HF.out];clear q6 q9 q19 q20 q50;go_enter Tryz.func38,Tryz.ntmps38
 go_wp2_with (first
  |(refine zf 6 rfl ?_;refine zb (some 6) (.string (bs P6)) rfl rfl (by rw[Q6.out,←qE];exact zA _ _ rfl (bs (zc)) (bs ([32])) rfl rfl (by rw[zi,zi,←List.length_append,←Q6.out];omega) _) ?_)
  |(refine zf 9 rfl ?_;refine zb (some 9) (.string (bs P9)) rfl rfl (by rw[Q9.out,←qE];exact zA _ _ rfl (bs (P6)) (bs (s)) rfl rfl (by rw[zi,zi,←List.length_append,←Q9.out];omega) _) ?_)
  |(refine zf 19 rfl ?_;refine zb (some 19) (.string (bs P19)) rfl rfl (by rw[Q19.out,←qE];exact zA _ _ rfl (bs ([32])) (bs (X)) rfl rfl (by rw[zi,zi,←List.length_append,←Q19.out];omega) _) ?_)
  |(refine zf 20 rfl ?_;refine zb (some 20) (.string (bs P20)) rfl rfl (by rw[Q20.out,←qE];exact zA _ _ rfl (bs (P9)) (bs (P19)) rfl rfl (by rw[zi,zi,←List.length_append,←Q20.out];omega) _) ?_)
  |(refine zf 50 rfl ?_;refine zb (some 50) (.string (bs P50)) rfl rfl (by rw[Q50.out,←qE];exact zA _ _ rfl (bs (P20)) (bs ([59,10])) rfl rfl (by rw[zi,zi,←List.length_append,←Q50.out];omega) _) ?_)
  |(go_at_call 70;refine(hit _ (zd _ _)).mono ?_;rintro e w1 ⟨rfl,hb1⟩))
 go_ret
 exact⟨rfl,(zd w _).trans (hb1.mono (by simp))⟩
theorem VJ(s:List UInt8)(M at_:Int)(l:List Nd)(A:Option Addr)(C:Nat)(w:World)(h:jZ w (.mk zg s M at_ l) A C)(ht:JX w)(hk:VQ (.mk zg s M at_ l)):
 Calls Tryz.prog 38 #[.agg (zR (.mk zg s M at_ l) (.slice A l.length C))] w λe w'=>e= .returned (.string (bs (qP (.mk zg s M at_ l))))∧Below w.heap.size w w':=by
 have hs:s.length≤1000000000:=hk.s;have hn:j2 M=true:=hk.num (by first |exact .inl rfl|exact .inr rfl);have hE:qP (.mk zg s M at_ l)=zg++ [32]++s++([32]++Lib.itoa M)++ [59,10]:=by show _++vE _++_=_;rw[show vE (.mk zg s M at_ l)=32::Lib.itoa M from if_pos (by first |exact .inl rfl|exact .inr rfl)];rfl
 have hit:=λW hW=>kE M W (ht.below hW) hn
 have hil:=Ky hn;rw[hE];generalize Lib.itoa M=X at *;unfold zR;simp only[Nd.op,Nd.s,Nd.n,Nd.a,yG];generalize l.length=L;clear h hk ht hE hn;have hwl:zg.length≤20:=by decide
 have hwr:zO.length=8:=by decide
 obtain⟨P6,q6⟩:∃P,P=zg++ [32]:=⟨_,rfl⟩
 have z6:P6.length≤100:=by have e:=congrArg List.length q6;simp at e;omega
 have Q6:Hid (P6=zg++ [32]):=q6
 obtain⟨P9,q9⟩:∃P,P=P6++s:=⟨_,rfl⟩
 have z9:P9.length≤1100000000:=by have e:=congrArg List.length q9;simp at e;omega
 have Q9:Hid (P9=P6++s):=q9
 obtain⟨P19,q19⟩:∃P,P= [32]++X:=⟨_,rfl⟩
 have z19:P19.length≤100000000:=by have e:=congrArg List.length q19;simp at e;omega
 have Q19:Hid (P19= [32]++X):=q19
 obtain⟨P20,q20⟩:∃P,P=P9++P19:=⟨_,rfl⟩
 have z20:P20.length≤1200000000:=by have e:=congrArg List.length q20;simp at e;omega
 have Q20:Hid (P20=P9++P19):=q20
 obtain⟨P50,q50⟩:∃P,P=P20++ [59,10]:=⟨_,rfl⟩
 have z50:P50.length≤2400000000:=by have e:=congrArg List.length q50;simp at e;omega
 have Q50:Hid (P50=P20++ [59,10]):=q50;have HF:Hid (P50=zg++ [32]++s++([32]++X)++ [59,10]):=by show _=_;rw[q50,q20,q19,q9,q6]
 rw[←HF.out];clear q6 q9 q19 q20 q50;go_enter Tryz.func38,Tryz.ntmps38
 go_wp2_with (first
  |(refine zf 6 rfl ?_;refine zb (some 6) (.string (bs P6)) rfl rfl (by rw[Q6.out,←qE];exact zA _ _ rfl (bs (zg)) (bs ([32])) rfl rfl (by rw[zi,zi,←List.length_append,←Q6.out];omega) _) ?_)
  |(refine zf 9 rfl ?_;refine zb (some 9) (.string (bs P9)) rfl rfl (by rw[Q9.out,←qE];exact zA _ _ rfl (bs (P6)) (bs (s)) rfl rfl (by rw[zi,zi,←List.length_append,←Q9.out];omega) _) ?_)
  |(refine zf 19 rfl ?_;refine zb (some 19) (.string (bs P19)) rfl rfl (by rw[Q19.out,←qE];exact zA _ _ rfl (bs ([32])) (bs (X)) rfl rfl (by rw[zi,zi,←List.length_append,←Q19.out];omega) _) ?_)
  |(refine zf 20 rfl ?_;refine zb (some 20) (.string (bs P20)) rfl rfl (by rw[Q20.out,←qE];exact zA _ _ rfl (bs (P9)) (bs (P19)) rfl rfl (by rw[zi,zi,←List.length_append,←Q20.out];omega) _) ?_)
  |(refine zf 50 rfl ?_;refine zb (some 50) (.string (bs P50)) rfl rfl (by rw[Q50.out,←qE];exact zA _ _ rfl (bs (P20)) (bs ([59,10])) rfl rfl (by rw[zi,zi,←List.length_append,←Q50.out];omega) _) ?_)
  |(go_at_call 70;refine(hit _ (zd _ _)).mono ?_;rintro e w1 ⟨rfl,hb1⟩))
 go_ret
 exact⟨rfl,(zd w _).trans (hb1.mono (by simp))⟩
theorem gq(s:List UInt8)(M at_:Int)(l:List Nd)(A:Option Addr)(C:Nat)(w:World)(h:jZ w (.mk zT s M at_ l) A C)(ht:JX w)(hk:VQ (.mk zT s M at_ l)):
 Calls Tryz.prog 38 #[.agg (zR (.mk zT s M at_ l) (.slice A l.length C))] w λe w'=>e= .returned (.string (bs (qP (.mk zT s M at_ l))))∧Below w.heap.size w w':=by
 have hs:s.length≤1000000000:=hk.s;obtain⟨m,e1,hm⟩:∃m,l= [m]∧m.s.length≤1000000000:=hk.hex (by first |exact .inl rfl|exact .inr rfl);subst e1;have hE:qP (.mk zT s M at_ [m])=zT++ [32]++s++([32,36]++m.s)++ [59,10]:=by show _++vE _++_=_;rw[show vE (.mk zT s M at_ [m])= [32,36]++m.s from(if_neg (by show ¬(zT=zc∨zT=zg);decide)).trans (if_pos (by first |exact .inl rfl|exact .inr rfl))];rfl
 rw[hE];obtain⟨g,off,u,rfl,hg,hc,hru,hsu,hou⟩:=h.rd.get 0 (by simp[Nd.l]);simp only[Nd.l,List.getElem_cons_zero]at hc;have d1:=hc 1 (by decide);simp only[zR,Nat.zero_mul,Nat.add_zero]at d1;have hc1:=h.len.1;simp only[Nd.l,List.length_singleton]at hc1;clear h hk ht hE hc hru hsu hou;generalize m.s=X at *;unfold zR;simp only[Nd.op,Nd.s,Nd.n,Nd.a,VY];rw[show([m]:List Nd).length=1 from rfl];have hwl:zT.length≤20:=by decide
 have hwr:zO.length=8:=by decide
 obtain⟨P6,q6⟩:∃P,P=zT++ [32]:=⟨_,rfl⟩
 have z6:P6.length≤100:=by have e:=congrArg List.length q6;simp at e;omega
 have Q6:Hid (P6=zT++ [32]):=q6
 obtain⟨P9,q9⟩:∃P,P=P6++s:=⟨_,rfl⟩
 have z9:P9.length≤1100000000:=by have e:=congrArg List.length q9;simp at e;omega
 have Q9:Hid (P9=P6++s):=q9
 obtain⟨P30,q30⟩:∃P,P= [32,36]++X:=⟨_,rfl⟩
 have z30:P30.length≤1100000000:=by have e:=congrArg List.length q30;simp at e;omega
 have Q30:Hid (P30= [32,36]++X):=q30
 obtain⟨P31,q31⟩:∃P,P=P9++P30:=⟨_,rfl⟩
 have z31:P31.length≤2200000000:=by have e:=congrArg List.length q31;simp at e;omega
 have Q31:Hid (P31=P9++P30):=q31
 obtain⟨P50,q50⟩:∃P,P=P31++ [59,10]:=⟨_,rfl⟩
 have z50:P50.length≤2400000000:=by have e:=congrArg List.length q50;simp at e;omega
 have Q50:Hid (P50=P31++ [59,10]):=q50;have HF:Hid (P50=zT++ [32]++s++([32,36]++X)++ [59,10]):=by show _=_;rw[q50,q31,q30,q9,q6]
 rw[←HF.out];clear q6 q9 q30 q31 q50;go_enter Tryz.func38,Tryz.ntmps38
 go_wp2_with (first
  |(refine zf 6 rfl ?_;refine zb (some 6) (.string (bs P6)) rfl rfl (by rw[Q6.out,←qE];exact zA _ _ rfl (bs (zT)) (bs ([32])) rfl rfl (by rw[zi,zi,←List.length_append,←Q6.out];omega) _) ?_)
  |(refine zf 9 rfl ?_;refine zb (some 9) (.string (bs P9)) rfl rfl (by rw[Q9.out,←qE];exact zA _ _ rfl (bs (P6)) (bs (s)) rfl rfl (by rw[zi,zi,←List.length_append,←Q9.out];omega) _) ?_)
  |(refine zf 30 rfl ?_;refine zb (some 30) (.string (bs P30)) rfl rfl (by rw[Q30.out,←qE];exact zA _ _ rfl (bs ([32,36])) (bs (X)) rfl rfl (by rw[zi,zi,←List.length_append,←Q30.out];omega) _) ?_)
  |(refine zf 31 rfl ?_;refine zb (some 31) (.string (bs P31)) rfl rfl (by rw[Q31.out,←qE];exact zA _ _ rfl (bs (P9)) (bs (P30)) rfl rfl (by rw[zi,zi,←List.length_append,←Q31.out];omega) _) ?_)
  |(refine zf 50 rfl ?_;refine zb (some 50) (.string (bs P50)) rfl rfl (by rw[Q50.out,←qE];exact zA _ _ rfl (bs (P31)) (bs ([59,10])) rfl rfl (by rw[zi,zi,←List.length_append,←Q50.out];omega) _) ?_))
 go_ret
 exact⟨rfl,zd _ _⟩
theorem Uv(s:List UInt8)(M at_:Int)(l:List Nd)(A:Option Addr)(C:Nat)(w:World)(h:jZ w (.mk zD s M at_ l) A C)(ht:JX w)(hk:VQ (.mk zD s M at_ l)):
 Calls Tryz.prog 38 #[.agg (zR (.mk zD s M at_ l) (.slice A l.length C))] w λe w'=>e= .returned (.string (bs (qP (.mk zD s M at_ l))))∧Below w.heap.size w w':=by
 have hs:s.length≤1000000000:=hk.s;obtain⟨m,e1,hm⟩:∃m,l= [m]∧m.s.length≤1000000000:=hk.hex (by first |exact .inl rfl|exact .inr rfl);subst e1;have hE:qP (.mk zD s M at_ [m])=zD++ [32]++s++([32,36]++m.s)++ [59,10]:=by show _++vE _++_=_;rw[show vE (.mk zD s M at_ [m])= [32,36]++m.s from(if_neg (by show ¬(zD=zc∨zD=zg);decide)).trans (if_pos (by first |exact .inl rfl|exact .inr rfl))];rfl
 rw[hE];obtain⟨g,off,u,rfl,hg,hc,hru,hsu,hou⟩:=h.rd.get 0 (by simp[Nd.l]);simp only[Nd.l,List.getElem_cons_zero]at hc;have d1:=hc 1 (by decide);simp only[zR,Nat.zero_mul,Nat.add_zero]at d1;have hc1:=h.len.1;simp only[Nd.l,List.length_singleton]at hc1;clear h hk ht hE hc hru hsu hou;generalize m.s=X at *;unfold zR;simp only[Nd.op,Nd.s,Nd.n,Nd.a,Jg];rw[show([m]:List Nd).length=1 from rfl];have hwl:zD.length≤20:=by decide
 have hwr:zO.length=8:=by decide
 obtain⟨P6,q6⟩:∃P,P=zD++ [32]:=⟨_,rfl⟩
 have z6:P6.length≤100:=by have e:=congrArg List.length q6;simp at e;omega
 have Q6:Hid (P6=zD++ [32]):=q6
 obtain⟨P9,q9⟩:∃P,P=P6++s:=⟨_,rfl⟩
 have z9:P9.length≤1100000000:=by have e:=congrArg List.length q9;simp at e;omega
 have Q9:Hid (P9=P6++s):=q9
 obtain⟨P30,q30⟩:∃P,P= [32,36]++X:=⟨_,rfl⟩
 have z30:P30.length≤1100000000:=by have e:=congrArg List.length q30;simp at e;omega
 have Q30:Hid (P30= [32,36]++X):=q30
 obtain⟨P31,q31⟩:∃P,P=P9++P30:=⟨_,rfl⟩
 have z31:P31.length≤2200000000:=by have e:=congrArg List.length q31;simp at e;omega
 have Q31:Hid (P31=P9++P30):=q31
 obtain⟨P50,q50⟩:∃P,P=P31++ [59,10]:=⟨_,rfl⟩
 have z50:P50.length≤2400000000:=by have e:=congrArg List.length q50;simp at e;omega
 have Q50:Hid (P50=P31++ [59,10]):=q50;have HF:Hid (P50=zD++ [32]++s++([32,36]++X)++ [59,10]):=by show _=_;rw[q50,q31,q30,q9,q6]
 rw[←HF.out];clear q6 q9 q30 q31 q50;go_enter Tryz.func38,Tryz.ntmps38
 go_wp2_with (first
  |(refine zf 6 rfl ?_;refine zb (some 6) (.string (bs P6)) rfl rfl (by rw[Q6.out,←qE];exact zA _ _ rfl (bs (zD)) (bs ([32])) rfl rfl (by rw[zi,zi,←List.length_append,←Q6.out];omega) _) ?_)
  |(refine zf 9 rfl ?_;refine zb (some 9) (.string (bs P9)) rfl rfl (by rw[Q9.out,←qE];exact zA _ _ rfl (bs (P6)) (bs (s)) rfl rfl (by rw[zi,zi,←List.length_append,←Q9.out];omega) _) ?_)
  |(refine zf 30 rfl ?_;refine zb (some 30) (.string (bs P30)) rfl rfl (by rw[Q30.out,←qE];exact zA _ _ rfl (bs ([32,36])) (bs (X)) rfl rfl (by rw[zi,zi,←List.length_append,←Q30.out];omega) _) ?_)
  |(refine zf 31 rfl ?_;refine zb (some 31) (.string (bs P31)) rfl rfl (by rw[Q31.out,←qE];exact zA _ _ rfl (bs (P9)) (bs (P30)) rfl rfl (by rw[zi,zi,←List.length_append,←Q31.out];omega) _) ?_)
  |(refine zf 50 rfl ?_;refine zb (some 50) (.string (bs P50)) rfl rfl (by rw[Q50.out,←qE];exact zA _ _ rfl (bs (P31)) (bs ([59,10])) rfl rfl (by rw[zi,zi,←List.length_append,←Q50.out];omega) _) ?_))
 go_ret
 exact⟨rfl,zd _ _⟩
theorem YW(s:List UInt8)(M at_:Int)(l:List Nd)(A:Option Addr)(C:Nat)(w:World)(h:jZ w (.mk zp s M at_ l) A C)(ht:JX w)(hk:VQ (.mk zp s M at_ l)):
 Calls Tryz.prog 38 #[.agg (zR (.mk zp s M at_ l) (.slice A l.length C))] w λe w'=>e= .returned (.string (bs (qP (.mk zp s M at_ l))))∧Below w.heap.size w w':=by
 have hs:s.length≤1000000000:=hk.s;obtain⟨m,e1,hm1,hm2,hm3⟩:∃m,l= [m]∧VX 13 m∧(qD 13 m).length≤1000000000∧DK 13 m:=hk.vol rfl;subst e1;have hE:qP (.mk zp s M at_ [m])=zp++ [32]++s++([32,61,32]++qD 13 m)++ [59,10]:=by show _++vE _++_=_;rw[show vE (.mk zp s M at_ [m])= [32,61,32]++qD 13 m from(if_neg (by show ¬(zp=zc∨zp=zg);decide)).trans ((if_neg (by show ¬(zp=zT∨zp=zD);decide)).trans (if_pos rfl))];rfl
 rw[hE];obtain⟨g,off,u,rfl,hg,hc,hru,hsu,hou⟩:=h.rd.get 0 (by simp[Nd.l]);simp only[Nd.l,List.getElem_cons_zero]at hc hru hsu hou;obtain⟨Au,Cu,rfl,hu1,hu2⟩:=hru.slice;have d0:=hc 0 (by decide);have d1:=hc 1 (by decide);have d2:=hc 2 (by decide);have d3:=hc 3 (by decide);have d4:=hc 4 (by decide);simp only[zR,Nat.zero_mul,Nat.add_zero]at d0 d1 d2 d3 d4;have hc1:=h.len.1;simp only[Nd.l,List.length_singleton]at hc1;have htx:=λW hW=>zaD 13 m Au Cu W (jZ.grow (w:=w) ⟨hru,hsu,hou⟩ hW) (ht.below hW) hm1 hm2 hm3
 unfold zR at htx ⊢;simp only[Nd.op,Nd.s,Nd.n,Nd.a,xo];rw[show([m]:List Nd).length=1 from rfl];generalize qD 13 m=X at *;clear h hk ht hE hc hru hsu hou hm1 hm3;have hwl:zp.length≤20:=by decide
 have hwr:zO.length=8:=by decide
 obtain⟨P6,q6⟩:∃P,P=zp++ [32]:=⟨_,rfl⟩
 have z6:P6.length≤100:=by have e:=congrArg List.length q6;simp at e;omega
 have Q6:Hid (P6=zp++ [32]):=q6
 obtain⟨P9,q9⟩:∃P,P=P6++s:=⟨_,rfl⟩
 have z9:P9.length≤1100000000:=by have e:=congrArg List.length q9;simp at e;omega
 have Q9:Hid (P9=P6++s):=q9
 obtain⟨P40,q40⟩:∃P,P= [32,61,32]++X:=⟨_,rfl⟩
 have z40:P40.length≤1100000000:=by have e:=congrArg List.length q40;simp at e;omega
 have Q40:Hid (P40= [32,61,32]++X):=q40
 obtain⟨P41,q41⟩:∃P,P=P9++P40:=⟨_,rfl⟩
 have z41:P41.length≤2300000000:=by have e:=congrArg List.length q41;simp at e;omega
 have Q41:Hid (P41=P9++P40):=q41
 obtain⟨P50,q50⟩:∃P,P=P41++ [59,10]:=⟨_,rfl⟩
 have z50:P50.length≤2400000000:=by have e:=congrArg List.length q50;simp at e;omega
 have Q50:Hid (P50=P41++ [59,10]):=q50;have HF:Hid (P50=zp++ [32]++s++([32,61,32]++X)++ [59,10]):=by show _=_;rw[q50,q41,q40,q9,q6]
 rw[←HF.out];clear q6 q9 q40 q41 q50;go_enter Tryz.func38,Tryz.ntmps38
 go_wp2_with (first
  |(refine zf 6 rfl ?_;refine zb (some 6) (.string (bs P6)) rfl rfl (by rw[Q6.out,←qE];exact zA _ _ rfl (bs (zp)) (bs ([32])) rfl rfl (by rw[zi,zi,←List.length_append,←Q6.out];omega) _) ?_)
  |(refine zf 9 rfl ?_;refine zb (some 9) (.string (bs P9)) rfl rfl (by rw[Q9.out,←qE];exact zA _ _ rfl (bs (P6)) (bs (s)) rfl rfl (by rw[zi,zi,←List.length_append,←Q9.out];omega) _) ?_)
  |(refine zf 40 rfl ?_;refine zb (some 40) (.string (bs P40)) rfl rfl (by rw[Q40.out,←qE];exact zA _ _ rfl (bs ([32,61,32])) (bs (X)) rfl rfl (by rw[zi,zi,←List.length_append,←Q40.out];omega) _) ?_)
  |(refine zf 41 rfl ?_;refine zb (some 41) (.string (bs P41)) rfl rfl (by rw[Q41.out,←qE];exact zA _ _ rfl (bs (P9)) (bs (P40)) rfl rfl (by rw[zi,zi,←List.length_append,←Q41.out];omega) _) ?_)
  |(refine zf 50 rfl ?_;refine zb (some 50) (.string (bs P50)) rfl rfl (by rw[Q50.out,←qE];exact zA _ _ rfl (bs (P41)) (bs ([59,10])) rfl rfl (by rw[zi,zi,←List.length_append,←Q50.out];omega) _) ?_)
  |(go_at_call 71;refine(htx _ (zd _ _)).mono ?_;rintro e w1 ⟨rfl,hb1⟩))
 go_ret
 exact⟨rfl,(zd w _).trans (hb1.mono (by simp))⟩
theorem Xj(s:List UInt8)(M at_:Int)(l:List Nd)(A:Option Addr)(C:Nat)(w:World)(h:jZ w (.mk zv s M at_ l) A C)(ht:JX w)(hk:VQ (.mk zv s M at_ l)):
 Calls Tryz.prog 38 #[.agg (zR (.mk zv s M at_ l) (.slice A l.length C))] w λe w'=>e= .returned (.string (bs (qP (.mk zv s M at_ l))))∧Below w.heap.size w w':=by
 have hs:s.length≤1000000000:=hk.s;unfold zR;simp only[Nd.op,Nd.s,Nd.n,Nd.a,xn];generalize hL:l.length=L;by_cases hM:M=1
 ·subst hM
  have hE:qP (.mk zv s 1 at_ l)=zv++ [32]++s++(32::zO)++ [59,10]:=by show _++vE _++_=_;rw[show vE (.mk zv s 1 at_ l)=32::zO from(if_neg (by show ¬(zv=zc∨zv=zg);decide)).trans ((if_neg (by show ¬(zv=zT∨zv=zD);decide)).trans ((if_neg (by show ¬zv=zp;decide)).trans (if_pos ⟨rfl,rfl⟩)))];rfl
  rw[hE];clear h hk ht hE hL;have hwl:zv.length≤20:=by decide
  have hwr:zO.length=8:=by decide
  obtain⟨P6,q6⟩:∃P,P=zv++ [32]:=⟨_,rfl⟩
  have z6:P6.length≤100:=by have e:=congrArg List.length q6;simp at e;omega
  have Q6:Hid (P6=zv++ [32]):=q6
  obtain⟨P9,q9⟩:∃P,P=P6++s:=⟨_,rfl⟩
  have z9:P9.length≤1100000000:=by have e:=congrArg List.length q9;simp at e;omega
  have Q9:Hid (P9=P6++s):=q9
  obtain⟨P48,q48⟩:∃P,P=P9++(32::zO):=⟨_,rfl⟩
  have z48:P48.length≤1200000000:=by have e:=congrArg List.length q48;simp at e;omega
  have Q48:Hid (P48=P9++(32::zO)):=q48
  obtain⟨P50,q50⟩:∃P,P=P48++ [59,10]:=⟨_,rfl⟩
  have z50:P50.length≤2400000000:=by have e:=congrArg List.length q50;simp at e;omega
  have Q50:Hid (P50=P48++ [59,10]):=q50;have HF:Hid (P50=zv++ [32]++s++(32::zO)++ [59,10]):=by show _=_;rw[q50,q48,q9,q6]
  rw[←HF.out];clear q6 q9 q48 q50;go_enter Tryz.func38,Tryz.ntmps38
  go_wp2_with (first
   |(refine zf 6 rfl ?_;refine zb (some 6) (.string (bs P6)) rfl rfl (by rw[Q6.out,←qE];exact zA _ _ rfl (bs (zv)) (bs ([32])) rfl rfl (by rw[zi,zi,←List.length_append,←Q6.out];omega) _) ?_)
   |(refine zf 9 rfl ?_;refine zb (some 9) (.string (bs P9)) rfl rfl (by rw[Q9.out,←qE];exact zA _ _ rfl (bs (P6)) (bs (s)) rfl rfl (by rw[zi,zi,←List.length_append,←Q9.out];omega) _) ?_)
   |(refine zf 48 rfl ?_;refine zb (some 48) (.string (bs P48)) rfl rfl (by rw[Q48.out,←qE];exact zA _ _ rfl (bs (P9)) (bs ((32::zO))) rfl rfl (by rw[zi,zi,←List.length_append,←Q48.out];omega) _) ?_)
   |(refine zf 50 rfl ?_;refine zb (some 50) (.string (bs P50)) rfl rfl (by rw[Q50.out,←qE];exact zA _ _ rfl (bs (P48)) (bs ([59,10])) rfl rfl (by rw[zi,zi,←List.length_append,←Q50.out];omega) _) ?_))
  go_ret
  exact⟨rfl,zd _ _⟩
 ·have hE:qP (.mk zv s M at_ l)=zv++ [32]++s++ [59,10]:=by show _++vE _++_=_;rw[show vE (.mk zv s M at_ l)= []from(if_neg (by show ¬(zv=zc∨zv=zg);decide)).trans ((if_neg (by show ¬(zv=zT∨zv=zD);decide)).trans ((if_neg (by show ¬zv=zp;decide)).trans (if_neg (by rintro⟨_,h⟩;exact hM h))))];simp[Nd.op,Nd.s]
  rw[hE];clear h hk ht hE hL;have hwl:zv.length≤20:=by decide
  have hwr:zO.length=8:=by decide
  obtain⟨P6,q6⟩:∃P,P=zv++ [32]:=⟨_,rfl⟩
  have z6:P6.length≤100:=by have e:=congrArg List.length q6;simp at e;omega
  have Q6:Hid (P6=zv++ [32]):=q6
  obtain⟨P9,q9⟩:∃P,P=P6++s:=⟨_,rfl⟩
  have z9:P9.length≤1100000000:=by have e:=congrArg List.length q9;simp at e;omega
  have Q9:Hid (P9=P6++s):=q9
  obtain⟨P50,q50⟩:∃P,P=P9++ [59,10]:=⟨_,rfl⟩
  have z50:P50.length≤2400000000:=by have e:=congrArg List.length q50;simp at e;omega
  have Q50:Hid (P50=P9++ [59,10]):=q50;have HF:Hid (P50=zv++ [32]++s++ [59,10]):=by show _=_;rw[q50,q9,q6]
  rw[←HF.out];clear q6 q9 q50;go_enter Tryz.func38,Tryz.ntmps38
  go_wp2_with (first
   |(refine zf 6 rfl ?_;refine zb (some 6) (.string (bs P6)) rfl rfl (by rw[Q6.out,←qE];exact zA _ _ rfl (bs (zv)) (bs ([32])) rfl rfl (by rw[zi,zi,←List.length_append,←Q6.out];omega) _) ?_)
   |(refine zf 9 rfl ?_;refine zb (some 9) (.string (bs P9)) rfl rfl (by rw[Q9.out,←qE];exact zA _ _ rfl (bs (P6)) (bs (s)) rfl rfl (by rw[zi,zi,←List.length_append,←Q9.out];omega) _) ?_)
   |(refine zf 50 rfl ?_;refine zb (some 50) (.string (bs P50)) rfl rfl (by rw[Q50.out,←qE];exact zA _ _ rfl (bs (P9)) (bs ([59,10])) rfl rfl (by rw[zi,zi,←List.length_append,←Q50.out];omega) _) ?_))
  go_ret
  exact⟨rfl,zd _ _⟩
theorem GI{n:Nd}(h:vG n=true):n.op=zc∨n.op=zg∨n.op=zT∨n.op=zD∨n.op=zp∨n.op=zv:=by
 rw[Yh,Bool.and_eq_true]at h;have h2:=h.2;unfold vU at h2;by_cases a1:n.op=zc∨n.op=zg
 ·rcases a1 with a|a<;>simp[a]
 ·rw[if_neg a1]at h2
  by_cases a2:n.op=zT∨n.op=zD
  ·rcases a2 with a|a<;>simp[a]
  ·rw[if_neg a2]at h2
   by_cases a3:n.op=zp
   ·simp[a3]
   ·rw[if_neg a3]at h2
    by_cases a4:n.op=zv
    ·simp[a4]
    ·rw[if_neg a4]at h2;cases h2
theorem zaM(n:Nd)(A:Option Addr)(C:Nat)(w:World)(h:jZ w n A C)(ht:JX w)(hk:VQ n)(hw:n.op=zc∨n.op=zg∨n.op=zT∨n.op=zD∨n.op=zp∨n.op=zv):Calls Tryz.prog 38 #[.agg (zR n (.slice A n.l.length C))] w λe w'=>e= .returned (.string (bs (qP n)))∧Below w.heap.size w w':=by
 obtain⟨op,s,M,at_,l⟩:=n;simp only[Nd.op]at hw;rcases hw with rfl|rfl|rfl|rfl|rfl|rfl
 ·exact Xd s M at_ l A C w h ht hk
 ·exact VJ s M at_ l A C w h ht hk
 ·exact gq s M at_ l A C w h ht hk
 ·exact Uv s M at_ l A C w h ht hk
 ·exact YW s M at_ l A C w h ht hk
 ·exact Xj s M at_ l A C w h ht hk
theorem D7(B b:Nat)(x y:List UInt8)(w:World)(h:Lib.IsBuilder 90 5 B b (Lib.byteCells x) w)(hl:x.length+y.length≤140737488355328)(hB:B≤w.heap.size):Calls Tryz.prog 37 #[.pointer (some ⟨b,0,none⟩),.string (bs y)] w λe w'=>∃k,e= .returned (.tuple #[.int .i64 k,.nilIface])∧Lib.IsBuilder 90 5 B b (Lib.byteCells (x++y)) w'∧Below B w w':=by
 have:=Go.Proofs.Any.Builder_WriteString Tryz.lays166 Tryz.Builder_Extra_156 B b (Lib.byteCells x) (bs y) w h (by rw[zi];simp[Lib.byteCells];omega) hB;refine this.mono ?_;rintro e w' ⟨rfl,h1,h2⟩;refine⟨_,rfl,.inr ?_,h2⟩;have e:Lib.byteCells (x++y)=Lib.byteCells x++Lib.strCells (bs y):=by simp[Lib.byteCells,Lib.strCells,bs]
 rw[e];exact h1
theorem Zw{T e B b:Nat}{p:Value}{bs:List Value}{w w':World}(h:Lib.BuilderAt T e B b p bs w)(hb:Below w.heap.size w w'):Lib.BuilderAt T e B b p bs w':=by
 obtain⟨h1,v,h2,h3,h4⟩:=h;exact⟨h1,v,(hb.block b (Array.getElem?_eq_some_iff.1 h2).1).trans h2,zI h3 (λg o e ho=>(hb.block g (qy h3 e).1).trans ho),h4⟩
theorem Xh{T e B b:Nat}{bs:List Value}{w w':World}(h:Lib.IsBuilder T e B b bs w)(hb:Below w.heap.size w w'):Lib.IsBuilder T e B b bs w':=by
 rcases h with h|h
 ·exact .inl (Zw h hb)
 ·exact .inr (Zw h hb)
theorem Kr(w:World)(T B:Nat)(hB:B≤w.heap.size):Lib.IsBuilder T 5 B w.heap.size [] (w.alloc (.cells #[.pointer none,.slice none 0 0] T)):=
 .inl ⟨hB,.slice none 0 0,heap_alloc_new w _,⟨rfl,.inl ⟨rfl,rfl⟩⟩,by intro e;cases e⟩
theorem J7(n:Nd)(A:Option Addr)(C:Nat)(w:World)(h:jZ w n A C)(ht:JX w)(hR:xP n=true)(hk:∀x ∈ n.l,VQ x)(hz:(printed n).length≤100000000000):Calls Tryz.prog 19 #[.agg (zR n (.slice A n.l.length C))] w λe w'=>e= .returned (.tuple #[.string (bs (printed n)),.int .i64 0])∧Below w.heap.size w w':=by
 have hrt:=λW hW=>Gl n A C W (h.grow hW)
 have hrs:∀x ∈ n.l,vG x=true:=by
  unfold xP at hR;simp only[Bool.and_eq_true]at hR;exact List.all_eq_true.1 hR.1.1.1
 rw[hR]at hrt;have hln:=λm Au Cu W (hr:jZ W m Au Cu) ht hm=>zaM m Au Cu W hr ht (hk m hm) (GI (hrs m hm))
 obtain⟨L,hL⟩:∃L,L=n.l.length:=⟨_,rfl⟩
 have HL:Hid (L=n.l.length):=hL;have hL2:L≤9223372036854775807:=by have:=h.len;omega
 have hrd:=h;rw[←hL]at hrt ⊢;rw[show(zR n (.slice A L C))= #[.string (bs n.op),.string (bs n.s),.int .i64 n.n,.int .i64 n.a,.slice A L C]from rfl]at hrt ⊢
 have hzi:∀i,((n.l.take i).flatMap qP).length≤(printed n).length:=by
  intro i;unfold printed
  conv=>rhs;rw[←List.take_append_drop i n.l,List.flatMap_append,List.length_append]
  omega
 clear hR hL h hrs hk;go_enter Tryz.func19,Tryz.ntmps19
 go_wp2_with (first
  |((go_at_call 23)
    refine(hrt _ (zd _ _)).mono ?_;rintro e w1 ⟨rfl,hb1⟩;have hbw:Below w.heap.size w w1:=(zd w _).trans (hb1.mono (by simp));have hN1:=(ze.new w _ _).below hb1 (by simp);have hlN:=hN1.lt;(have n4:=hN1.cell 4)))
 have hB0:=Kr w1 90 w1.heap.size (Nat.le_refl _)
 obtain⟨W2,hW2⟩:∃W,W=w1.alloc (.cells #[.pointer none,.slice none 0 0] 90):=⟨_,rfl⟩
 have hb2:Below w1.heap.size w1 W2:=by rw[hW2];exact zd _ _
 rw[←hW2]at hB0 ⊢;clear hW2 hrt n4 hN1
 go_loopw [13] (λz wz=>∃i:Nat,i≤L∧z= .int .i64 (i:Nat)∧Below w1.heap.size w1 wz∧Lib.IsBuilder 90 5 w1.heap.size w1.heap.size (Lib.byteCells ((n.l.take i).flatMap qP)) wz) (λz _=>L-(intOf z).toNat)
 case atStart=>exact⟨0,Nat.zero_le _,rfl,hb2,hB0⟩
 case round =>
  clear hB0;obtain⟨i,hi,rfl,hbz,hbd⟩:=hrel;have hbwr:Below w.heap.size w wr:=hbw.trans (hbz.mono hbw.size);have hszr:=hbz.size;by_cases hiL:i<L
  ·have hiL2:(i:Int)<(L:Int):=by omega
   have hiL':i<n.l.length:=by rw[←HL.out];exact hiL
   have hR:=(hrd.grow hbwr).rd;rw[←HL.out]at hR;obtain⟨g,off,u,rfl,hg,hc,hru,hsu,hou⟩:=hR.get i hiL'
   obtain⟨m,hm⟩:∃m,m=n.l[i]:=⟨_,rfl⟩
   have hmem:m ∈ n.l:=by rw[hm];exact List.getElem_mem hiL'
   rw[←hm]at hc hru hsu hou;obtain⟨Au,Cu,rfl,hu1,hu2⟩:=hru.slice;have d0:=hc 0 (by decide);have d1:=hc 1 (by decide);have d2:=hc 2 (by decide);have d3:=hc 3 (by decide);have d4:=hc 4 (by decide);simp only[Nat.add_zero]at d0;simp only[zR]at d0 d1 d2 d3 d4;have htx:=λW hW=>hln m Au Cu W (jZ.grow (w:=wr) ⟨hru,hsu,hou⟩ hW) ((ht.below hbwr).below hW) hmem
   unfold zR at htx;have hnx:(n.l.take (i+1)).flatMap qP=(n.l.take i).flatMap qP++qP m:=by rw[List.take_succ_eq_append_getElem hiL',List.flatMap_append,hm];simp
   have HNX:Hid ((n.l.take (i+1)).flatMap qP=(n.l.take i).flatMap qP++qP m):=hnx;have hsz:((n.l.take i).flatMap qP++qP m).length≤100000000000:=by rw[←hnx];exact Nat.le_trans (hzi _) hz
   generalize qP m=X at htx HNX hsz;generalize (n.l.take i).flatMap qP=P at hbd HNX hsz;rw[List.length_append]at hsz;have hwc:=λW hW hB=>D7 w1.heap.size w1.heap.size P X W (Xh hbd hW) (by omega) hB
   clear hnx hm hc hR hln hmem
   go_wp2_with (first
    |((go_at_call 38)
      refine(htx _ (zd _ _)).mono ?_;rintro e w4 ⟨rfl,hb4⟩;have hb4':Below wr.heap.size wr w4:=(zd wr _).trans (hb4.mono (by simp));(have hB4:w1.heap.size≤w4.heap.size:=Nat.le_trans hszr hb4'.size))
    |((go_at_call 37)
      refine(hwc _ hb4' hB4).mono ?_;(rintro e w5 ⟨k5,rfl,hi5,hb5⟩)))
   go_roundw
   case rel=>exact⟨i+1,by omega,by go_num,(hbz.trans (hb4'.mono hszr)).trans hb5,by rw[HNX.out];exact hi5⟩
   case measure=>simp[intOf];omega
  ·have hiL2:i=L:=by omega
   subst hiL2;have hta:(n.l.take i).flatMap qP=printed n:=by rw[HL.out,List.take_length];rfl
   rw[hta]at hbd;have hst:=Tryz.Builder_String_any w1.heap.size w1.heap.size (printed n) wr hbd hszr;have hst:Calls Tryz.prog 39 #[.pointer (some ⟨w1.heap.size,0,none⟩)] wr λe w'=>e= .returned (.string (bs (printed n)))∧Below w1.heap.size wr w':=hst
   obtain⟨X,hX⟩:∃X,X=printed n:=⟨_,rfl⟩
   rw[←hX]at hst;have HX:Hid (X=printed n):=hX;clear hta hln hX hbd
   go_wp2_with (go_at_call 39;refine hst.mono ?_;rintro e w4 ⟨rfl,hb4⟩)
   go_ret2
   exact⟨by rw[←HX.out];rfl,hbw.trans ((hbz.trans hb4).mono hbw.size)⟩
end
section
def Gq{α:Type}(R:α→List Tk→Prop)(P:jk α):Prop:=∀en ts,uY ts→∀x r,P en ts= .ok (x,r)→∃q,Qq ts=q++Qq r∧R x q∧uY r
theorem Gq.ret{α:Type}{R:α→List Tk→Prop}{x:α}(h:R x []):Gq R (qT x):=λen ts hg y r hy=>by cases hy;exact⟨[],rfl,h,hg⟩
theorem Gq.bind{α β:Type}{R:α→List Tk→Prop}{S:β→List Tk→Prop}{P:jk α}{f:α→jk β}(h:Gq R P)(hf:∀x q,R x q→Gq (λy q'=>S y (q++q')) (f x)):Gq S (zt P f):=by
 intro en ts hg y r hy;unfold zt at hy;cases hp:P en ts with
 |error e=>rw[hp]at hy;cases hy
 |ok z =>
  obtain⟨z,s⟩:=z;rw[hp]at hy;obtain⟨q,e1,h1,h2⟩:=h en ts hg z s hp;obtain⟨q',e2,h3,h4⟩:=hf z q h1 en s h2 y r hy;exact⟨q++q',by rw[e1,e2,List.append_assoc],h3,h4⟩
theorem Gq.take(p:Tk→Bool):Gq (λ(t:Tk×Nat) q=>q= [t.1]∧xw t.1∧p t.1=true) (zn p):=by
 intro en ts hg y r hy;have h1:=uF hy;have h2:=Vt hy;subst h1;exact⟨[y.1],rfl,⟨rfl,hg _ (by simp),h2⟩,λt ht=>hg t (by simp[ht])⟩
theorem Gq.fork{α:Type}{R:α→List Tk→Prop}(p:Tk→Bool){P Q:jk α}(h:Gq R P)(h':Gq R Q):Gq R (QS p P Q):=by
 intro en ts hg y r hy;unfold QS at hy
 split at hy
 ·exact h en ts hg y r hy
 ·exact h' en ts hg y r hy
theorem Gq.ite{α:Type}{R:α→List Tk→Prop}(c:Prop)[Decidable c]{P Q:jk α}(h:c→Gq R P)(h':¬c→Gq R Q):Gq R (if c then P else Q):=by
 split
 ·exact h ‹_›
 ·exact h' ‹_›
theorem Gq.mono{α:Type}{R S:α→List Tk→Prop}{P:jk α}(h:Gq R P)(hs:∀x q,R x q→S x q):Gq S P:=by
 intro en ts hg y r hy;obtain⟨q,e,h1,h2⟩:=h en ts hg y r hy;exact⟨q,e,hs _ _ h1,h2⟩
def yl(L:X4):Prop:=∀u b rest,u.kind=3→xK ((u,b)::rest)→xK (L++(u,b)::rest)
def Fj(L:X4):Prop:=L= []∨∃u b L',L=(u,b)::L'∧u.kind=3
theorem yl.nil:yl []:=λu b rest _ h=>h
theorem yl.word{t:Tk}(h:xw t):yl [(t,[])]:=λu b rest hu hr=> .cons t [] _ h (.inl rfl) (.inr (.inr ⟨u,b,rest,rfl,hu⟩)) hr
theorem yl.append{L M:X4}(h:yl L)(hm:yl M)(hs:Fj M):yl (L++M):=by
 intro u b rest hu hr;rw[List.append_assoc];rcases hs with rfl|⟨v,c,M',rfl,hv⟩
 ·exact h u b rest hu hr
 ·exact h v c (M'++(u,b)::rest) hv (hm u b rest hu hr)
theorem yl.sign{t:Tk}{s:List UInt8}{L:X4}(h:xw t)(h3:t.kind=3)(hs:s= []∨s= [32]∨s= [10])(hL:yl L):yl ((t,s)::L):=by
 intro u b rest hu hr;exact .cons t s _ h hs (.inl h3) (hL u b rest hu hr)
theorem yb(L M:X4):laid (L++M)=laid L++laid M:=by simp[laid]
theorem yd(L M:X4):xx (L++M)=xx L++xx M:=by simp[xx]
theorem j0(t:Tk)(s:List UInt8)(L:X4):laid ((t,s)::L)=Zx t++(s++laid L):=by simp[laid]
theorem xa(t:Tk)(s:List UInt8)(L:X4):xx ((t,s)::L)=t::xx L:=rfl
def Kc(c:UInt8):Tk:=⟨3,[c],0⟩
theorem Q3{t:Tk}{c:UInt8}(h:xw t)(hs:qM [c] t=true):t=Kc c:=by
 unfold qM at hs;simp only[Bool.and_eq_true,beq_iff_eq]at hs;obtain⟨k,s,n⟩:=t;simp only at hs;obtain⟨rfl,rfl⟩:=hs;have:=h.zero (by show(3:Nat)≠1;decide);simp only at this;subst this;rfl
theorem ZG(c:UInt8)(h:xX c=true):xw (Kc c):=by
 have h1:zP c=false∧zm c=false∧c≠36:=by
  simp[xX]at h;rcases h with(((rfl|rfl)|rfl)|rfl)|rfl<;>decide
 exact⟨by show(3:Nat)≤3;decide,λe=>(by cases e),λe=>(by cases e),λe=>(by cases e),λ_=>⟨c,rfl,h,h1.1,h1.2.1,h1.2.2⟩,λ_=>rfl⟩
theorem JG(c:UInt8):Zx (Kc c)= [c]:=rfl
theorem xq{t:Tk}(h:t.kind=0):Zx t=t.s:=by unfold Zx;rw[if_neg (by omega),if_neg (by omega)]
theorem JN{t:Tk}(h:jl t=true):t.kind=0∧Zy t.s=false:=by
 unfold jl at h
 simpa using h
theorem zaE(n:Nat):Lib.decDigits n=dg n:=by
 induction n using Nat.strongRecOn with
 |_ n ih =>
  rw[Lib.decDigits]
  split
  ·rename_i h;rw[xR h]
  ·rename_i h;rw[ih (n / 10) (by omega),←ZL h]
theorem Kq(n:Nat):Lib.itoa (n:Int)=dg n:=by
 unfold Lib.itoa;rw[if_neg (by omega),Int.toNat_natCast,zaE]
theorem uQ{t:Tk}(h:xw t)(h3:t.kind≠3):∃a,ZO (Zx t)=some (t,a):=by
 have hl:(Zx t).length≤2000:=by
  have hs:=h.short;unfold Zx
  split
  ·rename_i h1;have:=Uq 8 t.n (by have:=(h.num h1).2;simpa using this);omega
  ·split
   ·rename_i h2;have:=(h.hex h2).2.2;simp;omega
   ·omega
 have hL:xK [(t,[10])]:= .cons t [10] [] h (.inr (.inr rfl)) (.inr (.inl (by simp))) .nil;have h1:=XL h [] (.inr (λc hc=>by cases hc));rw[List.append_nil]at h1;have hs0:=XM (XO h) [];rw[List.append_nil]at hs0;have hne:Zx t≠ []:=by intro e;rw[e]at h1;cases h1
 refine⟨0,?_⟩;unfold ZO j9;rw[if_neg (by omega),vC (by rw[hs0];exact hne) (by rw[hs0];exact h1) (by omega),hs0];have hf:1≤(Zx t).length:=(yV h1).1
 obtain⟨f,hf'⟩:∃f,(Zx t).length=f+1:=⟨(Zx t).length-1,by omega⟩
 simp only[Nat.zero_add,Nat.add_zero,List.drop_length];rw[hf',yg rfl];rfl
theorem UR{t:Tk}(h:xw t)(hn:jl t=true):vg t.s=true:=by
 obtain⟨h0,h1⟩:=JN hn;obtain⟨a,ha⟩:=uQ h (by omega);rw[xq h0]at ha;unfold vg;rw[ha];simp[hn]
theorem zaJ{t:Tk}(h:xw t)(h2:t.kind=2):Vs t.s=true:=by
 obtain⟨a,ha⟩:=uQ h (by omega);have e:Zx t=36::t.s:=by unfold Zx;rw[if_neg (by omega),if_pos h2]
 rw[e]at ha;unfold Vs;rw[ha];simp[h2]
theorem Gb{t:Tk}(h:xw t)(h1:t.kind=1):j2 (t.n:Int)=true:=by
 have:=(h.num h1).2;unfold j2;simp;omega
end
end Go.Proofs.YtebcfkigbbolaaaGreatDoor
