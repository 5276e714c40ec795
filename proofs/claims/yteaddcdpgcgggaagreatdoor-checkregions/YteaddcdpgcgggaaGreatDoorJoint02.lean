import Derived.Test.YteaddcdpgcgggaaGreatDoorJoint01
import Derived.RegionTactic
import Derived.Test.YteaddcdpgcgggaaGreatDoorJoint00
import Derived.BigQuiet
import Derived.Deep.QuietTactic
namespace Go.Proofs.YteaddcdpgcgggaaGreatDoor
set_option linter.unusedVariables false
set_option maxRecDepth 100000
set_option maxHeartbeats 40000000
section
open Go.ChangeShapes Go.WideShapes Go.ChangeAt Go.RowKit
theorem VQ{w:World}{P Q S i:Nat}(l:List UInt8)(hP:zm w P 3 #[.int .i64 (i:Nat)])(hQ:zm w Q 149 #[pt P])(hS:zm w S 9 #[.string (bs l)])(hQP:Q≠P)(hSP:S≠P)(hi:i≤l.length)(hl:l.length≤2000):
 Calls Tryz.prog 134 #[.func (.func 138) #[] #[],pt Q,pt S] w (Zz w P l i (zS zG (l.drop i))):=by
 have hsz:=zJ l;have p0:w.cell? ⟨P,0,none⟩=some (.int .i64 (i:Nat)):=hP.cell 0;have q0:w.cell? ⟨Q,0,none⟩=some (pt P):=hQ.cell 0;have hi2:i≤2000:=by omega
 have HS:Hid ((bs l).size=l.length):=hsz;clear hsz;go_enter Tryz.func134,Tryz.ntmps134
 go_wp2
 go_loopw [] (λwr=>∃k:Nat,k≤zS zG (l.drop i)∧i+k≤l.length∧jJ w wr P (i+k)) (λwr=>2000-atP wr P)
 case atStart=>exact⟨0,Nat.zero_le _,by omega,jJ.refl hP⟩
 case round =>
  obtain⟨k,hk,hkl,hm⟩:=hrel;have p1:wr.cell? ⟨P,0,none⟩=some (.int .i64 ((i+k:Nat):Int)):=hm.has.cell 0;have q1:wr.cell? ⟨Q,0,none⟩=some (pt P):=(hm.other hQ hQP).cell 0;have s1:wr.cell? ⟨S,0,none⟩=some (.string (bs l)):=(hm.other hS hSP).cell 0;have f1:wr.frozen? ⟨P,0,none⟩=false:=hm.has.free 0
  obtain⟨J,hJ⟩:∃J,J=i+k:=⟨_,rfl⟩
  rw[←hJ]at p1;have HJ:Hid (J=i+k):=hJ;clear hJ p0 q0;have hJ2:J≤2000:=by have:=HJ.out;omega
  by_cases hlt:i+k<l.length
  ·have h1:J<(bs l).size:=by rw[HS.out,HJ.out];exact hlt
   have h2:((J:Nat):Int)<((bs l).size:Int):=by omega
   have hget:(bs l)[J]'h1=l[i+k]:=by rw[qa];simp only[HJ.out]
   have ht:=λW=>Fk ((bs l)[J]'h1) W
   cases hc:zG (l[i+k])
   ·have hb:zG ((bs l)[J]'h1)=false:=by rw[hget];exact hc
    rw[hb]at ht;have hn:=yY hk hlt hc;have HN:Hid (k=zS zG (l.drop i)):=hn;clear hn hb hget hc;have b1:((i:Nat):Int)≤((J:Nat):Int):=by have:=HJ.out;omega
    have b2:((J:Nat):Int)≤((bs l).size:Int):=by omega
    go_wp2_with fail
    go_quiet ((go_at_call 138;exact Calls.quiet_of_same (ht _)))
    go_wp2
    go_quiet (fail)
    go_wp2
    go_ret
    exact yq HJ.out HN.out ((hm.drewN _).drewN _)
   ·have hb:zG ((bs l)[J]'h1)=true:=by rw[hget];exact hc
    rw[hb]at ht;have hn:=(xY hk hlt).2 hc;clear hb hget hc
    go_wp2_with fail
    go_quiet ((go_at_call 138;exact Calls.quiet_of_same (ht _)))
    go_wp2
    go_roundw
    case rel=>exact⟨k+1,hn,by omega,xV HJ.out (hm.drewN _)⟩
    case measure=>exact Zu HJ.out (hm.drewN _) hJ2 hlt hl
  ·have h1:decide (J<(bs l).size)=false:=by rw[decide_eq_false_iff_not,HS.out,HJ.out];omega
   have h2:decide (((J:Nat):Int)<((bs l).size:Int))=false:=by rw[decide_eq_false_iff_not,HS.out,HJ.out];omega
   have hn:=xS hk hlt hi;have HN:Hid (k=zS zG (l.drop i)):=hn;have b1:((i:Nat):Int)≤((J:Nat):Int):=by have:=HJ.out;omega
   have b2:((J:Nat):Int)≤((bs l).size:Int):=by rw[HS.out,HJ.out];omega
   clear hn
   go_wp2_with fail
   go_quiet (fail)
   go_wp2
   go_quiet (fail)
   go_wp2
   go_ret
   exact yq HJ.out HN.out ((hm.drewN _).drewN _)
def Z9(w w':World)(P j:Nat):Prop:=∃w1,jJ w w1 P j∧Below w1.heap.size w1 w'
theorem jJ.after{w w':World}{P j:Nat}(h:jJ w w' P j):Z9 w w' P j:=⟨w',h,Below.refl _ _⟩
theorem Z9.at_{w w':World}{P j:Nat}(h:Z9 w w' P j):zm w' P 3 #[.int .i64 (j:Nat)]:=by
 obtain⟨w1,hm,hb⟩:=h;exact hm.has.below hb hm.has.lt
theorem Z9.other{w w':World}{P j g t:Nat}{cs:Array Value}(h:Z9 w w' P j)(hg:zm w g t cs)(hne:g≠P):zm w' g t cs:=by
 obtain⟨w1,hm,hb⟩:=h;have:=hm.other hg hne;exact this.below hb this.lt
theorem Z9.size{w w':World}{P j:Nat}(h:Z9 w w' P j):w.heap.size≤w'.heap.size:=by
 obtain⟨w1,hm,hb⟩:=h;rw[←hm.size];exact hb.size
theorem Z9.below{w w':World}{P j B:Nat}(h:Z9 w w' P j)(hB:B≤P)(hw:B≤w.heap.size):Below B w w':=by
 obtain⟨w1,hm,hb⟩:=h;exact(hm.below hB hw).trans (hb.mono (by rw[hm.size];exact hw))
abbrev clo(Q S:Nat):Value:= .func (.func 134) #[] #[pt Q,pt S]
def Gm(w:World)(P j:Nat)(v:Value)(er:Int)(e:Ending)(w':World):Prop:=e= .returned (.tuple #[v,.int .i64 er])∧Z9 w w' P j
theorem JE(l:List UInt8)(p:UInt8→Bool)(j:Nat):(bs ((l.drop j).take (zS p (l.drop j)))).size=zS p (l.drop j):=by
 rw[zJ,List.length_take,Nat.min_eq_left (v8 _ _)]
theorem zbw{w0 w:World}{P Q S j:Nat}{l:List UInt8}(hC:UV w0 w P Q S j l)(hl:l.length≤2000)(h:¬16<zS qK (l.drop j)):
 Calls Tryz.prog 115 #[clo Q S] w (Gm w P (j+zS qK (l.drop j)) (.string (bs ((l.drop j).take (zS qK (l.drop j))))) 0):=by
 have ht:=Xo l hC.at_ hC.q hC.s hC.qp hC.sp hC.le hl;unfold Zz at ht;have hz:=JE l qK j;generalize (l.drop j).take (zS qK (l.drop j))=X at hz ht ⊢;have h1:¬(16:Int)<((bs X).size:Int):=by omega
 clear hz;go_enter Tryz.func115,Tryz.ntmps115
 go_wp2_with (go_at_call 134;refine ht.mono ?_;rintro e w1 ⟨rfl,hm⟩)
 go_ret2
 exact⟨rfl,hm.after⟩
theorem FI{w0 w:World}{P Q S j:Nat}{l:List UInt8}(hC:UV w0 w P Q S j l)(hl:l.length≤2000)(h:16<zS qK (l.drop j)):
 Calls Tryz.prog 115 #[clo Q S] w (Gm w P (j+zS qK (l.drop j)) (.string (bs [])) 102):=by
 have ht:=Xo l hC.at_ hC.q hC.s hC.qp hC.sp hC.le hl;unfold Zz at ht;have hz:=JE l qK j;generalize (l.drop j).take (zS qK (l.drop j))=X at hz ht ⊢;have h1:(16:Int)<((bs X).size:Int):=by omega
 clear hz;go_enter Tryz.func115,Tryz.ntmps115
 go_wp2_with (go_at_call 134;refine ht.mono ?_;rintro e w1 ⟨rfl,hm⟩)
 go_ret2
 exact⟨rfl,hm.after⟩
theorem JJ{w0 w:World}{P Q S j:Nat}{l:List UInt8}(hC:UV w0 w P Q S j l)(hl:l.length≤2000)(h:¬9<zS zz (l.drop j))(h0:zS zz (l.drop j)≠0):
 Calls Tryz.prog 117 #[clo Q S] w (Gm w P (j+zS zz (l.drop j)) (.int .i64 (val ((l.drop j).take (zS zz (l.drop j))):Nat)) 0):=by
 have ht:=J7 l hC.at_ hC.q hC.s hC.qp hC.sp hC.le hl;unfold Zz at ht;have hz:=JE l zz j;have hfig:∀c ∈ (l.drop j).take (zS zz (l.drop j)),zz c=true:=Js;generalize (l.drop j).take (zS zz (l.drop j))=X at hz ht hfig ⊢;have h1:¬(9:Int)<((bs X).size:Int):=by omega
 have h2:X≠ []:=by rintro rfl;rw[zJ]at hz;exact h0 hz.symm
 have h3:X.length≤9:=by rw[zJ]at hz;omega
 have ha:=λW=>zcq X W h2 h3 hfig
 clear hz hfig h2 h3;go_enter Tryz.func117,Tryz.ntmps117
 go_wp2_with (first
  |(go_at_call 134;refine ht.mono ?_;rintro e w1 ⟨rfl,hm⟩)
  |(go_at_call 137;refine(ha _).mono ?_;rintro e w2 ⟨rfl,hb⟩))
 go_ret2
 exact⟨rfl,_,hm,hb⟩
theorem KN{w0 w:World}{P Q S j:Nat}{l:List UInt8}(hC:UV w0 w P Q S j l)(hl:l.length≤2000)(h:9<zS zz (l.drop j)):
 Calls Tryz.prog 117 #[clo Q S] w (Gm w P (j+zS zz (l.drop j)) (.int .i64 0) 102):=by
 have ht:=J7 l hC.at_ hC.q hC.s hC.qp hC.sp hC.le hl;unfold Zz at ht;have hz:=JE l zz j;generalize (l.drop j).take (zS zz (l.drop j))=X at hz ht ⊢;have h1:(9:Int)<((bs X).size:Int):=by omega
 clear hz;go_enter Tryz.func117,Tryz.ntmps117
 go_wp2_with (go_at_call 134;refine ht.mono ?_;rintro e w1 ⟨rfl,hm⟩)
 go_ret2
 exact⟨rfl,hm.after⟩
theorem fU{w0 w:World}{P Q S j:Nat}{l:List UInt8}(hC:UV w0 w P Q S j l)(hl:l.length≤2000)(h:zS zG (l.drop j)=0):
 Calls Tryz.prog 118 #[clo Q S] w (Gm w P (j+zS zG (l.drop j)) (.string (bs [])) 101):=by
 have ht:=VQ l hC.at_ hC.q hC.s hC.qp hC.sp hC.le hl;unfold Zz at ht;have hz:(l.drop j).take (zS zG (l.drop j))= []:=by rw[h];rfl
 rw[hz]at ht;have h1:(bs []).toList= []:=zp [];clear hz;generalize zS zG (l.drop j)=n at ht h ⊢;clear h;go_enter Tryz.func118,Tryz.ntmps118
 go_wp2_with (go_at_call 134;refine ht.mono ?_;rintro e w1 ⟨rfl,hm⟩)
 go_ret2
 exact⟨rfl,hm.after⟩
theorem Dk{w0 w:World}{P Q S j:Nat}{l:List UInt8}(hC:UV w0 w P Q S j l)(hl:l.length≤2000)(h:128<zS zG (l.drop j)):
 Calls Tryz.prog 118 #[clo Q S] w (Gm w P (j+zS zG (l.drop j)) (.string (bs [])) 102):=by
 have ht:=VQ l hC.at_ hC.q hC.s hC.qp hC.sp hC.le hl;unfold Zz at ht;have hz:=JE l zG j;generalize (l.drop j).take (zS zG (l.drop j))=X at hz ht ⊢;have h1:(128:Int)<((bs X).size:Int):=by omega
 have h2:((bs X).toList== [])=false:=by rw[zp];cases X with
  |nil=>rw[zJ]at hz;simp at hz;omega
  |cons a b=>rfl
 clear hz;go_enter Tryz.func118,Tryz.ntmps118
 go_wp2_with (go_at_call 134;refine ht.mono ?_;rintro e w1 ⟨rfl,hm⟩)
 go_ret2
 exact⟨rfl,hm.after⟩
theorem Gv{w0 w:World}{P Q S j:Nat}{l:List UInt8}(hC:UV w0 w P Q S j l)(hl:l.length≤2000)(h0:zS zG (l.drop j)≠0)(h:¬128<zS zG (l.drop j)):
 Calls Tryz.prog 118 #[clo Q S] w (Gm w P (j+zS zG (l.drop j)) (.string (bs ((l.drop j).take (zS zG (l.drop j))))) 0):=by
 have ht:=VQ l hC.at_ hC.q hC.s hC.qp hC.sp hC.le hl;unfold Zz at ht;have hz:=JE l zG j;generalize (l.drop j).take (zS zG (l.drop j))=X at hz ht ⊢;have h1:¬(128:Int)<((bs X).size:Int):=by omega
 have h2:((bs X).toList== [])=false:=by rw[zp];cases X with
  |nil=>rw[zJ]at hz;simp at hz;omega
  |cons a b=>rfl
 clear hz;go_enter Tryz.func118,Tryz.ntmps118
 go_wp2_with (go_at_call 134;refine ht.mono ?_;rintro e w1 ⟨rfl,hm⟩)
 go_ret2
 exact⟨rfl,hm.after⟩
def vG(t:Tk)(p:Nat):Array Value:=#[.int .i64 (t.kind:Nat),.string (bs t.s),.int .i64 (t.n:Nat),.int .i64 (p:Nat)]
def vP(w:World)(i:Nat)(t:Tk)(E:Nat)(er:Int)(e:Ending)(w':World):Prop:=e= .returned (.tuple #[.agg (vG t i),.int .i64 (E:Nat),.int .i64 er])∧Below w.heap.size w w'
abbrev Db(w:World)(l:List UInt8)(i:Nat)(z k:Int):World:=
 ((((w.alloc (.cells #[.int .i64 0,.string ⟨#[]⟩,.int .i64 0,.int .i64 0] 78)).alloc (.cells #[.int .i64 k,.string ⟨#[]⟩,.int .i64 0,.int .i64 (i:Nat)] 78)).alloc (.cells #[.int .i64 z] 3)).alloc (.cells #[.string (bs l)] 9)).alloc (.cells #[pt (w.heap.size+1+1)] 149)
theorem ye(w:World)(l:List UInt8)(i j:Nat)(z k:Int)(hz:z=(j:Nat))(hj:j≤l.length):UV w (Db w l i z k) (w.heap.size+1+1) (w.heap.size+1+1+1+1) (w.heap.size+1+1+1) j l:=by
 subst hz;exact⟨((zm.new_at (by simp)).alloc _).alloc _,zm.new_at (by simp),(zm.new_at (by simp)).alloc _,by omega,by omega,hj,(((((Below.refl _ _).alloc (Nat.le_refl _) _).alloc (by simp) _).alloc (by simp;omega) _).alloc (by simp;omega) _).alloc (by simp;omega) _,by omega⟩
theorem ya(w:World)(l:List UInt8)(i:Nat)(z k:Int):zm (Db w l i z k) (w.heap.size+1) 78 #[.int .i64 k,.string ⟨#[]⟩,.int .i64 0,.int .i64 (i:Nat)]:=(((zm.new_at (by simp)).alloc _).alloc _).alloc _
theorem yb(w:World)(l:List UInt8)(i:Nat)(z k:Int):zm (Db w l i z k) w.heap.size 78 #[.int .i64 0,.string ⟨#[]⟩,.int .i64 0,.int .i64 0]:=((((zm.new_at (by simp)).alloc _).alloc _).alloc _).alloc _
theorem VW:bs []=⟨#[]⟩:=rfl
theorem below_drew'{B:Nat}{a w:World}(h:Below B a w):Below B a w.drew:=⟨h.os,h.tape,h.output,h.size,h.block⟩
theorem xT{w:World}{o1 o2 o3 o4:Obj}(o5:Obj):Below w.heap.size w (((((w.alloc o1).alloc o2).alloc o3).alloc o4).alloc o5).drew:=
 below_drew' ((((((Below.refl _ _).alloc (Nat.le_refl _) _).alloc (by simp) _).alloc (by simp;omega) _).alloc (by simp;omega) _).alloc (by simp;omega) _)
theorem vE{w w1:World}{l:List UInt8}{i J:Nat}{z k:Int}(hA:Z9 (Db w l i z k) w1 (w.heap.size+1+1) J){a:Nat}{u v0 v1 v2 v3:Value}:
 Below w.heap.size w ((((((w1.setCell ⟨w.heap.size+1,a,none⟩ u).setCell ⟨w.heap.size,0,none⟩ v0).setCell ⟨w.heap.size,1,none⟩ v1).setCell ⟨w.heap.size,2,none⟩ v2).setCell ⟨w.heap.size,3,none⟩ v3).drew):=by
 have h1:Below w.heap.size w (Db w l i z k):=(((((Below.refl _ _).alloc (Nat.le_refl _) _).alloc (by simp) _).alloc (by simp;omega) _).alloc (by simp;omega) _).alloc (by simp;omega) _;have h2:=h1.trans (hA.below (B:=w.heap.size) (by omega) (by simp;omega));exact below_drew' (((((h2.setCell (p:=⟨w.heap.size+1,a,none⟩) (by simp) u).setCell (p:=⟨w.heap.size,0,none⟩) (by simp) v0).setCell (p:=⟨w.heap.size,1,none⟩) (by simp) v1).setCell (p:=⟨w.heap.size,2,none⟩) (by simp) v2).setCell (p:=⟨w.heap.size,3,none⟩) (by simp) v3)
theorem uu{w:World}{l:List UInt8}{i:Nat}(hi:i<l.length)(hl:l.length≤2000)(k1:qx l[i]=true)(h:¬16<zS qK (l.drop i)):
 Calls Tryz.prog 101 #[.string (bs l),.int .i64 (i:Nat)] w (vP w i ⟨0,(l.drop i).take (zS qK (l.drop i)),0⟩ (i+zS qK (l.drop i)) 0):=by
 have hsz:=zJ l;have h1:i<(bs l).size:=by omega
 have h2:((i:Nat):Int)<((bs l).size:Int):=by omega
 have hi2:i≤2000:=by omega
 have hc1:qx ((bs l)[i]'h1)=true:=by rw[qa];exact k1
 have hs1:=qZ ((bs l)[i]'h1);rw[hc1]at hs1;clear hc1 k1;have hw:=zbw (ye w l i i (i:Nat) 0 rfl (by omega)) hl h;have hH:=ya w l i (i:Nat) 0;have hR:=yb w l i (i:Nat) 0;have HS:Hid ((bs l).size=l.length):=hsz;clear hsz;go_enter Tryz.func101,Tryz.ntmps101
 go_wp2_with (first
  |(go_at_call 110;refine(jU _ _ _).mono ?_;rintro e w' ⟨rfl,rfl⟩)
  |(go_at_call 114;refine(hs1 _).mono ?_;rintro e w' ⟨rfl,rfl⟩)
  |(go_at_call 115
    refine hw.mono ?_;rintro e w1 ⟨rfl,hA⟩;have hH1:=hA.other hH (by omega);have hR1:=hA.other hR (by omega);have c0:=hH1.cell 0;have c1:=hH1.cell 1;have c2:=hH1.cell 2;have c3:=hH1.cell 3;have f1:=hH1.free 1;have f2:=hH1.free 2;have hP:=hA.at_.cell 0;have r0:w1.cell? ⟨w.heap.size,0,none⟩=some (.int .i64 0):=hR1.cell 0;have r1:w1.cell? ⟨w.heap.size,1,none⟩=some (.string ⟨#[]⟩):=hR1.cell 1;have r2:w1.cell? ⟨w.heap.size,2,none⟩=some (.int .i64 0):=hR1.cell 2;have r3:w1.cell? ⟨w.heap.size,3,none⟩=some (.int .i64 0):=hR1.cell 3;have g0:=hR1.free 0;have g1:=hR1.free 1;have g2:=hR1.free 2
    have g3:=hR1.free 3))
 go_region
 all_goals
  go_wp2
  exact bodyPost_ret (v:= .tuple #[.agg (vG ⟨0,(l.drop i).take (zS qK (l.drop i)),0⟩ i),.int .i64 (((i+zS qK (l.drop i)):Nat):Int),.int .i64 0]) (by simp[results,Tryz.results101,go_sem,vG,r0,r1,r2,r3]) rfl ⟨rfl,vE hA⟩
theorem KX{w:World}{l:List UInt8}{i:Nat}(hi:i<l.length)(hl:l.length≤2000)(k1:qx l[i]=true)(h:16<zS qK (l.drop i)):
 Calls Tryz.prog 101 #[.string (bs l),.int .i64 (i:Nat)] w (vP w i ⟨0,[],0⟩ (i+zS qK (l.drop i)) 102):=by
 have hsz:=zJ l;have h1:i<(bs l).size:=by omega
 have h2:((i:Nat):Int)<((bs l).size:Int):=by omega
 have hi2:i≤2000:=by omega
 have hc1:qx ((bs l)[i]'h1)=true:=by rw[qa];exact k1
 have hs1:=qZ ((bs l)[i]'h1);rw[hc1]at hs1;clear hc1 k1;have hw:=FI (ye w l i i (i:Nat) 0 rfl (by omega)) hl h;have hH:=ya w l i (i:Nat) 0;have hR:=yb w l i (i:Nat) 0;have HS:Hid ((bs l).size=l.length):=hsz;clear hsz;go_enter Tryz.func101,Tryz.ntmps101
 go_wp2_with (first
  |(go_at_call 110;refine(jU _ _ _).mono ?_;rintro e w' ⟨rfl,rfl⟩)
  |(go_at_call 114;refine(hs1 _).mono ?_;rintro e w' ⟨rfl,rfl⟩)
  |(go_at_call 115
    refine hw.mono ?_;rintro e w1 ⟨rfl,hA⟩;have hH1:=hA.other hH (by omega);have hR1:=hA.other hR (by omega);have c0:=hH1.cell 0;have c1:=hH1.cell 1;have c2:=hH1.cell 2;have c3:=hH1.cell 3;have f1:=hH1.free 1;have f2:=hH1.free 2;have hP:=hA.at_.cell 0;have r0:w1.cell? ⟨w.heap.size,0,none⟩=some (.int .i64 0):=hR1.cell 0;have r1:w1.cell? ⟨w.heap.size,1,none⟩=some (.string ⟨#[]⟩):=hR1.cell 1;have r2:w1.cell? ⟨w.heap.size,2,none⟩=some (.int .i64 0):=hR1.cell 2;have r3:w1.cell? ⟨w.heap.size,3,none⟩=some (.int .i64 0):=hR1.cell 3;have g0:=hR1.free 0;have g1:=hR1.free 1;have g2:=hR1.free 2
    have g3:=hR1.free 3))
 go_region
 all_goals
  go_wp2
  exact bodyPost_ret (v:= .tuple #[.agg (vG ⟨0,[],0⟩ i),.int .i64 (((i+zS qK (l.drop i)):Nat):Int),.int .i64 102]) (by simp[results,Tryz.results101,go_sem,vG,r0,r1,r2,r3]) rfl ⟨rfl,vE hA⟩
theorem gX{w:World}{l:List UInt8}{i:Nat}(hi:i<l.length)(hl:l.length≤2000)(k1:qx l[i]=false)(k2:zz l[i]=true)(h:¬9<zS zz (l.drop i))(h0:zS zz (l.drop i)≠0)(hE:i+zS zz (l.drop i)<l.length)(k3:xj (l[i+zS zz (l.drop i)])=false):
 Calls Tryz.prog 101 #[.string (bs l),.int .i64 (i:Nat)] w (vP w i ⟨1,[],val ((l.drop i).take (zS zz (l.drop i)))⟩ (i+zS zz (l.drop i)) 0):=by
 have hsz:=zJ l;have h1:i<(bs l).size:=by omega
 have h2:((i:Nat):Int)<((bs l).size:Int):=by omega
 have hi2:i≤2000:=by omega
 have hc1:qx ((bs l)[i]'h1)=false:=by rw[qa];exact k1
 have hs1:=qZ ((bs l)[i]'h1);rw[hc1]at hs1;clear hc1 k1;have hc2:zz ((bs l)[i]'h1)=true:=by rw[qa];exact k2
 have hs2:=qM ((bs l)[i]'h1);rw[hc2]at hs2;clear hc2 k2;have hw:=JJ (ye w l i i (i:Nat) 1 rfl (by omega)) hl h h0;have hH:=ya w l i (i:Nat) 1;have hR:=yb w l i (i:Nat) 1
 obtain⟨J,hJ⟩:∃J,J=(i+zS zz (l.drop i)):=⟨_,rfl⟩
 rw[←hJ]at hw hE ⊢;have HJ:Hid (J=(i+zS zz (l.drop i))):=hJ;clear hJ;have hJ2:J≤2000:=by omega
 have b1:J<(bs l).size:=by rw[hsz];exact hE
 have b2:((J:Nat):Int)<((bs l).size:Int):=by omega
 have k3':xj ((bs l)[J]'b1)=false:=by rw[qa];have:=HJ.out;subst this;exact k3
 have hs3:=yS ((bs l)[J]'b1);rw[k3']at hs3;clear k3' k3 hE;have HS:Hid ((bs l).size=l.length):=hsz;clear hsz;go_enter Tryz.func101,Tryz.ntmps101
 go_wp2_with (first
  |(go_at_call 110;refine(jU _ _ _).mono ?_;rintro e w' ⟨rfl,rfl⟩)
  |(go_at_call 114;refine(hs1 _).mono ?_;rintro e w' ⟨rfl,rfl⟩)
  |(go_at_call 116;refine(hs2 _).mono ?_;rintro e w' ⟨rfl,rfl⟩)
  |(go_at_call 119;refine(hs3 _).mono ?_;rintro e w' ⟨rfl,rfl⟩)
  |(go_at_call 117
    refine hw.mono ?_;rintro e w1 ⟨rfl,hA⟩;have hH1:=hA.other hH (by omega);have hR1:=hA.other hR (by omega);have c0:=hH1.cell 0;have c1:=hH1.cell 1;have c2:=hH1.cell 2;have c3:=hH1.cell 3;have f1:=hH1.free 1;have f2:=hH1.free 2;have hP:=hA.at_.cell 0;have r0:w1.cell? ⟨w.heap.size,0,none⟩=some (.int .i64 0):=hR1.cell 0;have r1:w1.cell? ⟨w.heap.size,1,none⟩=some (.string ⟨#[]⟩):=hR1.cell 1;have r2:w1.cell? ⟨w.heap.size,2,none⟩=some (.int .i64 0):=hR1.cell 2;have r3:w1.cell? ⟨w.heap.size,3,none⟩=some (.int .i64 0):=hR1.cell 3;have g0:=hR1.free 0;have g1:=hR1.free 1;have g2:=hR1.free 2
    have g3:=hR1.free 3))
 go_region
 all_goals
  go_wp2
  exact bodyPost_ret (v:= .tuple #[.agg (vG ⟨1,[],val ((l.drop i).take (zS zz (l.drop i)))⟩ i),.int .i64 ((J:Nat):Int),.int .i64 0]) (by simp[results,Tryz.results101,go_sem,vG,r0,r1,r2,r3,VW]) rfl ⟨rfl,vE hA⟩
theorem uJ{w:World}{l:List UInt8}{i:Nat}(hi:i<l.length)(hl:l.length≤2000)(k1:qx l[i]=false)(k2:zz l[i]=true)(h:¬9<zS zz (l.drop i))(h0:zS zz (l.drop i)≠0)(hE:i+zS zz (l.drop i)=l.length):
 Calls Tryz.prog 101 #[.string (bs l),.int .i64 (i:Nat)] w (vP w i ⟨1,[],val ((l.drop i).take (zS zz (l.drop i)))⟩ (i+zS zz (l.drop i)) 0):=by
 have hsz:=zJ l;have h1:i<(bs l).size:=by omega
 have h2:((i:Nat):Int)<((bs l).size:Int):=by omega
 have hi2:i≤2000:=by omega
 have hc1:qx ((bs l)[i]'h1)=false:=by rw[qa];exact k1
 have hs1:=qZ ((bs l)[i]'h1);rw[hc1]at hs1;clear hc1 k1;have hc2:zz ((bs l)[i]'h1)=true:=by rw[qa];exact k2
 have hs2:=qM ((bs l)[i]'h1);rw[hc2]at hs2;clear hc2 k2;have hw:=JJ (ye w l i i (i:Nat) 1 rfl (by omega)) hl h h0;have hH:=ya w l i (i:Nat) 1;have hR:=yb w l i (i:Nat) 1
 obtain⟨J,hJ⟩:∃J,J=(i+zS zz (l.drop i)):=⟨_,rfl⟩
 rw[←hJ]at hw hE ⊢;have HJ:Hid (J=(i+zS zz (l.drop i))):=hJ;clear hJ;have hJ2:J≤2000:=by omega
 have b2:¬((J:Nat):Int)<((bs l).size:Int):=by omega
 clear hE;have HS:Hid ((bs l).size=l.length):=hsz;clear hsz;go_enter Tryz.func101,Tryz.ntmps101
 go_wp2_with (first
  |(go_at_call 110;refine(jU _ _ _).mono ?_;rintro e w' ⟨rfl,rfl⟩)
  |(go_at_call 114;refine(hs1 _).mono ?_;rintro e w' ⟨rfl,rfl⟩)
  |(go_at_call 116;refine(hs2 _).mono ?_;rintro e w' ⟨rfl,rfl⟩)
  |(go_at_call 119;refine(hs3 _).mono ?_;rintro e w' ⟨rfl,rfl⟩)
  |(go_at_call 117
    refine hw.mono ?_;rintro e w1 ⟨rfl,hA⟩;have hH1:=hA.other hH (by omega);have hR1:=hA.other hR (by omega);have c0:=hH1.cell 0;have c1:=hH1.cell 1;have c2:=hH1.cell 2;have c3:=hH1.cell 3;have f1:=hH1.free 1;have f2:=hH1.free 2;have hP:=hA.at_.cell 0;have r0:w1.cell? ⟨w.heap.size,0,none⟩=some (.int .i64 0):=hR1.cell 0;have r1:w1.cell? ⟨w.heap.size,1,none⟩=some (.string ⟨#[]⟩):=hR1.cell 1;have r2:w1.cell? ⟨w.heap.size,2,none⟩=some (.int .i64 0):=hR1.cell 2;have r3:w1.cell? ⟨w.heap.size,3,none⟩=some (.int .i64 0):=hR1.cell 3;have g0:=hR1.free 0;have g1:=hR1.free 1;have g2:=hR1.free 2
    have g3:=hR1.free 3))
 go_region
 all_goals
  go_wp2
  exact bodyPost_ret (v:= .tuple #[.agg (vG ⟨1,[],val ((l.drop i).take (zS zz (l.drop i)))⟩ i),.int .i64 ((J:Nat):Int),.int .i64 0]) (by simp[results,Tryz.results101,go_sem,vG,r0,r1,r2,r3,VW]) rfl ⟨rfl,vE hA⟩
theorem Gn{w:World}{l:List UInt8}{i:Nat}(hi:i<l.length)(hl:l.length≤2000)(k1:qx l[i]=false)(k2:zz l[i]=true)(h:¬9<zS zz (l.drop i))(h0:zS zz (l.drop i)≠0)(hE:i+zS zz (l.drop i)<l.length)(k3:xj (l[i+zS zz (l.drop i)])=true):
 Calls Tryz.prog 101 #[.string (bs l),.int .i64 (i:Nat)] w (vP w i ⟨1,[],val ((l.drop i).take (zS zz (l.drop i)))⟩ (i+zS zz (l.drop i)) 101):=by
 have hsz:=zJ l;have h1:i<(bs l).size:=by omega
 have h2:((i:Nat):Int)<((bs l).size:Int):=by omega
 have hi2:i≤2000:=by omega
 have hc1:qx ((bs l)[i]'h1)=false:=by rw[qa];exact k1
 have hs1:=qZ ((bs l)[i]'h1);rw[hc1]at hs1;clear hc1 k1;have hc2:zz ((bs l)[i]'h1)=true:=by rw[qa];exact k2
 have hs2:=qM ((bs l)[i]'h1);rw[hc2]at hs2;clear hc2 k2;have hw:=JJ (ye w l i i (i:Nat) 1 rfl (by omega)) hl h h0;have hH:=ya w l i (i:Nat) 1;have hR:=yb w l i (i:Nat) 1
 obtain⟨J,hJ⟩:∃J,J=(i+zS zz (l.drop i)):=⟨_,rfl⟩
 rw[←hJ]at hw hE ⊢;have HJ:Hid (J=(i+zS zz (l.drop i))):=hJ;clear hJ;have hJ2:J≤2000:=by omega
 have b1:J<(bs l).size:=by rw[hsz];exact hE
 have b2:((J:Nat):Int)<((bs l).size:Int):=by omega
 have k3':xj ((bs l)[J]'b1)=true:=by rw[qa];have:=HJ.out;subst this;exact k3
 have hs3:=yS ((bs l)[J]'b1);rw[k3']at hs3;clear k3' k3 hE;have HS:Hid ((bs l).size=l.length):=hsz;clear hsz;go_enter Tryz.func101,Tryz.ntmps101
 go_wp2_with (first
  |(go_at_call 110;refine(jU _ _ _).mono ?_;rintro e w' ⟨rfl,rfl⟩)
  |(go_at_call 114;refine(hs1 _).mono ?_;rintro e w' ⟨rfl,rfl⟩)
  |(go_at_call 116;refine(hs2 _).mono ?_;rintro e w' ⟨rfl,rfl⟩)
  |(go_at_call 119;refine(hs3 _).mono ?_;rintro e w' ⟨rfl,rfl⟩)
  |(go_at_call 117
    refine hw.mono ?_;rintro e w1 ⟨rfl,hA⟩;have hH1:=hA.other hH (by omega);have hR1:=hA.other hR (by omega);have c0:=hH1.cell 0;have c1:=hH1.cell 1;have c2:=hH1.cell 2;have c3:=hH1.cell 3;have f1:=hH1.free 1;have f2:=hH1.free 2;have hP:=hA.at_.cell 0;have r0:w1.cell? ⟨w.heap.size,0,none⟩=some (.int .i64 0):=hR1.cell 0;have r1:w1.cell? ⟨w.heap.size,1,none⟩=some (.string ⟨#[]⟩):=hR1.cell 1;have r2:w1.cell? ⟨w.heap.size,2,none⟩=some (.int .i64 0):=hR1.cell 2;have r3:w1.cell? ⟨w.heap.size,3,none⟩=some (.int .i64 0):=hR1.cell 3;have g0:=hR1.free 0;have g1:=hR1.free 1;have g2:=hR1.free 2
    have g3:=hR1.free 3))
 go_region
 all_goals
  go_wp2
  exact bodyPost_ret (v:= .tuple #[.agg (vG ⟨1,[],val ((l.drop i).take (zS zz (l.drop i)))⟩ i),.int .i64 ((J:Nat):Int),.int .i64 101]) (by simp[results,Tryz.results101,go_sem,vG,r0,r1,r2,r3,VW]) rfl ⟨rfl,vE hA⟩
theorem uf{w:World}{l:List UInt8}{i:Nat}(hi:i<l.length)(hl:l.length≤2000)(k1:qx l[i]=false)(k2:zz l[i]=true)(h:9<zS zz (l.drop i)):
 Calls Tryz.prog 101 #[.string (bs l),.int .i64 (i:Nat)] w (vP w i ⟨1,[],0⟩ (i+zS zz (l.drop i)) 102):=by
 have hsz:=zJ l;have h1:i<(bs l).size:=by omega
 have h2:((i:Nat):Int)<((bs l).size:Int):=by omega
 have hi2:i≤2000:=by omega
 have hc1:qx ((bs l)[i]'h1)=false:=by rw[qa];exact k1
 have hs1:=qZ ((bs l)[i]'h1);rw[hc1]at hs1;clear hc1 k1;have hc2:zz ((bs l)[i]'h1)=true:=by rw[qa];exact k2
 have hs2:=qM ((bs l)[i]'h1);rw[hc2]at hs2;clear hc2 k2;have hw:=KN (ye w l i i (i:Nat) 1 rfl (by omega)) hl h;have hH:=ya w l i (i:Nat) 1;have hR:=yb w l i (i:Nat) 1;have HS:Hid ((bs l).size=l.length):=hsz;clear hsz;go_enter Tryz.func101,Tryz.ntmps101
 go_wp2_with (first
  |(go_at_call 110;refine(jU _ _ _).mono ?_;rintro e w' ⟨rfl,rfl⟩)
  |(go_at_call 114;refine(hs1 _).mono ?_;rintro e w' ⟨rfl,rfl⟩)
  |(go_at_call 116;refine(hs2 _).mono ?_;rintro e w' ⟨rfl,rfl⟩)
  |(go_at_call 117
    refine hw.mono ?_;rintro e w1 ⟨rfl,hA⟩;have hH1:=hA.other hH (by omega);have hR1:=hA.other hR (by omega);have c0:=hH1.cell 0;have c1:=hH1.cell 1;have c2:=hH1.cell 2;have c3:=hH1.cell 3;have f1:=hH1.free 1;have f2:=hH1.free 2;have hP:=hA.at_.cell 0;have r0:w1.cell? ⟨w.heap.size,0,none⟩=some (.int .i64 0):=hR1.cell 0;have r1:w1.cell? ⟨w.heap.size,1,none⟩=some (.string ⟨#[]⟩):=hR1.cell 1;have r2:w1.cell? ⟨w.heap.size,2,none⟩=some (.int .i64 0):=hR1.cell 2;have r3:w1.cell? ⟨w.heap.size,3,none⟩=some (.int .i64 0):=hR1.cell 3;have g0:=hR1.free 0;have g1:=hR1.free 1;have g2:=hR1.free 2
    have g3:=hR1.free 3))
 go_region
 all_goals
  go_wp2
  exact bodyPost_ret (v:= .tuple #[.agg (vG ⟨1,[],0⟩ i),.int .i64 (((i+zS zz (l.drop i)):Nat):Int),.int .i64 102]) (by simp[results,Tryz.results101,go_sem,vG,r0,r1,r2,r3,VW]) rfl ⟨rfl,vE hA⟩
theorem g7{w:World}{l:List UInt8}{i:Nat}(hi:i<l.length)(hl:l.length≤2000)(k4:l[i]=36)(h0:zS zG (l.drop (i+1))≠0)(h:¬128<zS zG (l.drop (i+1)))(hE:i+1+zS zG (l.drop (i+1))<l.length)(k3:xj (l[i+1+zS zG (l.drop (i+1))])=false):
 Calls Tryz.prog 101 #[.string (bs l),.int .i64 (i:Nat)] w (vP w i ⟨2,(l.drop (i+1)).take (zS zG (l.drop (i+1))),0⟩ (i+1+zS zG (l.drop (i+1))) 0):=by
 have hsz:=zJ l;have h1:i<(bs l).size:=by omega
 have h2:((i:Nat):Int)<((bs l).size:Int):=by omega
 have hi2:i≤2000:=by omega
 have k4':(bs l)[i]'h1=36:=by rw[qa];exact k4
 have k1:qx ((bs l)[i]'h1)=false:=by rw[k4'];decide
 have k2:zz ((bs l)[i]'h1)=false:=by rw[k4'];decide
 have hs1:=qZ ((bs l)[i]'h1);rw[k1]at hs1;have hs2:=qM ((bs l)[i]'h1);rw[k2]at hs2;have hv:((((bs l)[i]'h1).toNat:Nat):Int)=36:=by rw[k4'];rfl
 rw[hv]at hs1 hs2;clear k1 k2 k4 k4';have hw:=Gv (ye w l i (i+1) ((i:Nat)+1) 2 (by simp) (by omega)) hl h0 h;have hH:=ya w l i ((i:Nat)+1) 2;have hR:=yb w l i ((i:Nat)+1) 2
 obtain⟨J,hJ⟩:∃J,J=(i+1+zS zG (l.drop (i+1))):=⟨_,rfl⟩
 rw[←hJ]at hw hE ⊢;have HJ:Hid (J=(i+1+zS zG (l.drop (i+1)))):=hJ;clear hJ;have hJ2:J≤2000:=by omega
 have b1:J<(bs l).size:=by rw[hsz];exact hE
 have b2:((J:Nat):Int)<((bs l).size:Int):=by omega
 have k3':xj ((bs l)[J]'b1)=false:=by rw[qa];have:=HJ.out;subst this;exact k3
 have hs3:=yS ((bs l)[J]'b1);rw[k3']at hs3;clear k3' k3 hE;have HS:Hid ((bs l).size=l.length):=hsz;clear hsz;go_enter Tryz.func101,Tryz.ntmps101
 go_wp2_with (first
  |(go_at_call 110;refine(jU _ _ _).mono ?_;rintro e w' ⟨rfl,rfl⟩)
  |(go_at_call 114;refine(hs1 _).mono ?_;rintro e w' ⟨rfl,rfl⟩)
  |(go_at_call 116;refine(hs2 _).mono ?_;rintro e w' ⟨rfl,rfl⟩)
  |(go_at_call 119;refine(hs3 _).mono ?_;rintro e w' ⟨rfl,rfl⟩)
  |(go_at_call 118
    refine hw.mono ?_;rintro e w1 ⟨rfl,hA⟩;have hH1:=hA.other hH (by omega);have hR1:=hA.other hR (by omega);have c0:=hH1.cell 0;have c1:=hH1.cell 1;have c2:=hH1.cell 2;have c3:=hH1.cell 3;have f1:=hH1.free 1;have f2:=hH1.free 2;have hP:=hA.at_.cell 0;have r0:w1.cell? ⟨w.heap.size,0,none⟩=some (.int .i64 0):=hR1.cell 0;have r1:w1.cell? ⟨w.heap.size,1,none⟩=some (.string ⟨#[]⟩):=hR1.cell 1;have r2:w1.cell? ⟨w.heap.size,2,none⟩=some (.int .i64 0):=hR1.cell 2;have r3:w1.cell? ⟨w.heap.size,3,none⟩=some (.int .i64 0):=hR1.cell 3;have g0:=hR1.free 0;have g1:=hR1.free 1;have g2:=hR1.free 2
    have g3:=hR1.free 3))
 go_region
 all_goals
  go_wp2
  exact bodyPost_ret (v:= .tuple #[.agg (vG ⟨2,(l.drop (i+1)).take (zS zG (l.drop (i+1))),0⟩ i),.int .i64 ((J:Nat):Int),.int .i64 0]) (by simp[results,Tryz.results101,go_sem,vG,r0,r1,r2,r3]) rfl ⟨rfl,vE hA⟩
theorem uB{w:World}{l:List UInt8}{i:Nat}(hi:i<l.length)(hl:l.length≤2000)(k4:l[i]=36)(h0:zS zG (l.drop (i+1))≠0)(h:¬128<zS zG (l.drop (i+1)))(hE:i+1+zS zG (l.drop (i+1))=l.length):
 Calls Tryz.prog 101 #[.string (bs l),.int .i64 (i:Nat)] w (vP w i ⟨2,(l.drop (i+1)).take (zS zG (l.drop (i+1))),0⟩ (i+1+zS zG (l.drop (i+1))) 0):=by
 have hsz:=zJ l;have h1:i<(bs l).size:=by omega
 have h2:((i:Nat):Int)<((bs l).size:Int):=by omega
 have hi2:i≤2000:=by omega
 have k4':(bs l)[i]'h1=36:=by rw[qa];exact k4
 have k1:qx ((bs l)[i]'h1)=false:=by rw[k4'];decide
 have k2:zz ((bs l)[i]'h1)=false:=by rw[k4'];decide
 have hs1:=qZ ((bs l)[i]'h1);rw[k1]at hs1;have hs2:=qM ((bs l)[i]'h1);rw[k2]at hs2;have hv:((((bs l)[i]'h1).toNat:Nat):Int)=36:=by rw[k4'];rfl
 rw[hv]at hs1 hs2;clear k1 k2 k4 k4';have hw:=Gv (ye w l i (i+1) ((i:Nat)+1) 2 (by simp) (by omega)) hl h0 h;have hH:=ya w l i ((i:Nat)+1) 2;have hR:=yb w l i ((i:Nat)+1) 2
 obtain⟨J,hJ⟩:∃J,J=(i+1+zS zG (l.drop (i+1))):=⟨_,rfl⟩
 rw[←hJ]at hw hE ⊢;have HJ:Hid (J=(i+1+zS zG (l.drop (i+1)))):=hJ;clear hJ;have hJ2:J≤2000:=by omega
 have b2:¬((J:Nat):Int)<((bs l).size:Int):=by omega
 clear hE;have HS:Hid ((bs l).size=l.length):=hsz;clear hsz;go_enter Tryz.func101,Tryz.ntmps101
 go_wp2_with (first
  |(go_at_call 110;refine(jU _ _ _).mono ?_;rintro e w' ⟨rfl,rfl⟩)
  |(go_at_call 114;refine(hs1 _).mono ?_;rintro e w' ⟨rfl,rfl⟩)
  |(go_at_call 116;refine(hs2 _).mono ?_;rintro e w' ⟨rfl,rfl⟩)
  |(go_at_call 119;refine(hs3 _).mono ?_;rintro e w' ⟨rfl,rfl⟩)
  |(go_at_call 118
    refine hw.mono ?_;rintro e w1 ⟨rfl,hA⟩;have hH1:=hA.other hH (by omega);have hR1:=hA.other hR (by omega);have c0:=hH1.cell 0;have c1:=hH1.cell 1;have c2:=hH1.cell 2;have c3:=hH1.cell 3;have f1:=hH1.free 1;have f2:=hH1.free 2;have hP:=hA.at_.cell 0;have r0:w1.cell? ⟨w.heap.size,0,none⟩=some (.int .i64 0):=hR1.cell 0;have r1:w1.cell? ⟨w.heap.size,1,none⟩=some (.string ⟨#[]⟩):=hR1.cell 1;have r2:w1.cell? ⟨w.heap.size,2,none⟩=some (.int .i64 0):=hR1.cell 2;have r3:w1.cell? ⟨w.heap.size,3,none⟩=some (.int .i64 0):=hR1.cell 3;have g0:=hR1.free 0;have g1:=hR1.free 1;have g2:=hR1.free 2
    have g3:=hR1.free 3))
 go_region
 all_goals
  go_wp2
  exact bodyPost_ret (v:= .tuple #[.agg (vG ⟨2,(l.drop (i+1)).take (zS zG (l.drop (i+1))),0⟩ i),.int .i64 ((J:Nat):Int),.int .i64 0]) (by simp[results,Tryz.results101,go_sem,vG,r0,r1,r2,r3]) rfl ⟨rfl,vE hA⟩
theorem U9{w:World}{l:List UInt8}{i:Nat}(hi:i<l.length)(hl:l.length≤2000)(k4:l[i]=36)(h0:zS zG (l.drop (i+1))≠0)(h:¬128<zS zG (l.drop (i+1)))(hE:i+1+zS zG (l.drop (i+1))<l.length)(k3:xj (l[i+1+zS zG (l.drop (i+1))])=true):
 Calls Tryz.prog 101 #[.string (bs l),.int .i64 (i:Nat)] w (vP w i ⟨2,(l.drop (i+1)).take (zS zG (l.drop (i+1))),0⟩ (i+1+zS zG (l.drop (i+1))) 101):=by
 have hsz:=zJ l;have h1:i<(bs l).size:=by omega
 have h2:((i:Nat):Int)<((bs l).size:Int):=by omega
 have hi2:i≤2000:=by omega
 have k4':(bs l)[i]'h1=36:=by rw[qa];exact k4
 have k1:qx ((bs l)[i]'h1)=false:=by rw[k4'];decide
 have k2:zz ((bs l)[i]'h1)=false:=by rw[k4'];decide
 have hs1:=qZ ((bs l)[i]'h1);rw[k1]at hs1;have hs2:=qM ((bs l)[i]'h1);rw[k2]at hs2;have hv:((((bs l)[i]'h1).toNat:Nat):Int)=36:=by rw[k4'];rfl
 rw[hv]at hs1 hs2;clear k1 k2 k4 k4';have hw:=Gv (ye w l i (i+1) ((i:Nat)+1) 2 (by simp) (by omega)) hl h0 h;have hH:=ya w l i ((i:Nat)+1) 2;have hR:=yb w l i ((i:Nat)+1) 2
 obtain⟨J,hJ⟩:∃J,J=(i+1+zS zG (l.drop (i+1))):=⟨_,rfl⟩
 rw[←hJ]at hw hE ⊢;have HJ:Hid (J=(i+1+zS zG (l.drop (i+1)))):=hJ;clear hJ;have hJ2:J≤2000:=by omega
 have b1:J<(bs l).size:=by rw[hsz];exact hE
 have b2:((J:Nat):Int)<((bs l).size:Int):=by omega
 have k3':xj ((bs l)[J]'b1)=true:=by rw[qa];have:=HJ.out;subst this;exact k3
 have hs3:=yS ((bs l)[J]'b1);rw[k3']at hs3;clear k3' k3 hE;have HS:Hid ((bs l).size=l.length):=hsz;clear hsz;go_enter Tryz.func101,Tryz.ntmps101
 go_wp2_with (first
  |(go_at_call 110;refine(jU _ _ _).mono ?_;rintro e w' ⟨rfl,rfl⟩)
  |(go_at_call 114;refine(hs1 _).mono ?_;rintro e w' ⟨rfl,rfl⟩)
  |(go_at_call 116;refine(hs2 _).mono ?_;rintro e w' ⟨rfl,rfl⟩)
  |(go_at_call 119;refine(hs3 _).mono ?_;rintro e w' ⟨rfl,rfl⟩)
  |(go_at_call 118
    refine hw.mono ?_;rintro e w1 ⟨rfl,hA⟩;have hH1:=hA.other hH (by omega);have hR1:=hA.other hR (by omega);have c0:=hH1.cell 0;have c1:=hH1.cell 1;have c2:=hH1.cell 2;have c3:=hH1.cell 3;have f1:=hH1.free 1;have f2:=hH1.free 2;have hP:=hA.at_.cell 0;have r0:w1.cell? ⟨w.heap.size,0,none⟩=some (.int .i64 0):=hR1.cell 0;have r1:w1.cell? ⟨w.heap.size,1,none⟩=some (.string ⟨#[]⟩):=hR1.cell 1;have r2:w1.cell? ⟨w.heap.size,2,none⟩=some (.int .i64 0):=hR1.cell 2;have r3:w1.cell? ⟨w.heap.size,3,none⟩=some (.int .i64 0):=hR1.cell 3;have g0:=hR1.free 0;have g1:=hR1.free 1;have g2:=hR1.free 2
    have g3:=hR1.free 3))
 go_region
 all_goals
  go_wp2
  exact bodyPost_ret (v:= .tuple #[.agg (vG ⟨2,(l.drop (i+1)).take (zS zG (l.drop (i+1))),0⟩ i),.int .i64 ((J:Nat):Int),.int .i64 101]) (by simp[results,Tryz.results101,go_sem,vG,r0,r1,r2,r3]) rfl ⟨rfl,vE hA⟩
theorem u7{w:World}{l:List UInt8}{i:Nat}(hi:i<l.length)(hl:l.length≤2000)(k4:l[i]=36)(h:128<zS zG (l.drop (i+1))):
 Calls Tryz.prog 101 #[.string (bs l),.int .i64 (i:Nat)] w (vP w i ⟨2,[],0⟩ (i+1+zS zG (l.drop (i+1))) 102):=by
 have hsz:=zJ l;have h1:i<(bs l).size:=by omega
 have h2:((i:Nat):Int)<((bs l).size:Int):=by omega
 have hi2:i≤2000:=by omega
 have k4':(bs l)[i]'h1=36:=by rw[qa];exact k4
 have k1:qx ((bs l)[i]'h1)=false:=by rw[k4'];decide
 have k2:zz ((bs l)[i]'h1)=false:=by rw[k4'];decide
 have hs1:=qZ ((bs l)[i]'h1);rw[k1]at hs1;have hs2:=qM ((bs l)[i]'h1);rw[k2]at hs2;have hv:((((bs l)[i]'h1).toNat:Nat):Int)=36:=by rw[k4'];rfl
 rw[hv]at hs1 hs2;clear k1 k2 k4 k4';have hw:=Dk (ye w l i (i+1) ((i:Nat)+1) 2 (by simp) (by omega)) hl h;have hH:=ya w l i ((i:Nat)+1) 2;have hR:=yb w l i ((i:Nat)+1) 2;have HS:Hid ((bs l).size=l.length):=hsz;clear hsz;go_enter Tryz.func101,Tryz.ntmps101
 go_wp2_with (first
  |(go_at_call 110;refine(jU _ _ _).mono ?_;rintro e w' ⟨rfl,rfl⟩)
  |(go_at_call 114;refine(hs1 _).mono ?_;rintro e w' ⟨rfl,rfl⟩)
  |(go_at_call 116;refine(hs2 _).mono ?_;rintro e w' ⟨rfl,rfl⟩)
  |(go_at_call 118
    refine hw.mono ?_;rintro e w1 ⟨rfl,hA⟩;have hH1:=hA.other hH (by omega);have hR1:=hA.other hR (by omega);have c0:=hH1.cell 0;have c1:=hH1.cell 1;have c2:=hH1.cell 2;have c3:=hH1.cell 3;have f1:=hH1.free 1;have f2:=hH1.free 2;have hP:=hA.at_.cell 0;have r0:w1.cell? ⟨w.heap.size,0,none⟩=some (.int .i64 0):=hR1.cell 0;have r1:w1.cell? ⟨w.heap.size,1,none⟩=some (.string ⟨#[]⟩):=hR1.cell 1;have r2:w1.cell? ⟨w.heap.size,2,none⟩=some (.int .i64 0):=hR1.cell 2;have r3:w1.cell? ⟨w.heap.size,3,none⟩=some (.int .i64 0):=hR1.cell 3;have g0:=hR1.free 0;have g1:=hR1.free 1;have g2:=hR1.free 2
    have g3:=hR1.free 3))
 go_region
 all_goals
  go_wp2
  exact bodyPost_ret (v:= .tuple #[.agg (vG ⟨2,[],0⟩ i),.int .i64 (((i+1+zS zG (l.drop (i+1))):Nat):Int),.int .i64 102]) (by simp[results,Tryz.results101,go_sem,vG,r0,r1,r2,r3]) rfl ⟨rfl,vE hA⟩
theorem uh{w:World}{l:List UInt8}{i:Nat}(hi:i<l.length)(hl:l.length≤2000)(k4:l[i]=36)(h:zS zG (l.drop (i+1))=0):
 Calls Tryz.prog 101 #[.string (bs l),.int .i64 (i:Nat)] w (vP w i ⟨2,[],0⟩ (i+1) 101):=by
 have hsz:=zJ l;have h1:i<(bs l).size:=by omega
 have h2:((i:Nat):Int)<((bs l).size:Int):=by omega
 have hi2:i≤2000:=by omega
 have k4':(bs l)[i]'h1=36:=by rw[qa];exact k4
 have k1:qx ((bs l)[i]'h1)=false:=by rw[k4'];decide
 have k2:zz ((bs l)[i]'h1)=false:=by rw[k4'];decide
 have hs1:=qZ ((bs l)[i]'h1);rw[k1]at hs1;have hs2:=qM ((bs l)[i]'h1);rw[k2]at hs2;have hv:((((bs l)[i]'h1).toNat:Nat):Int)=36:=by rw[k4'];rfl
 rw[hv]at hs1 hs2;clear k1 k2 k4 k4';have hw:=fU (ye w l i (i+1) ((i:Nat)+1) 2 (by simp) (by omega)) hl h;have hH:=ya w l i ((i:Nat)+1) 2;have hR:=yb w l i ((i:Nat)+1) 2;rw[h,Nat.add_zero]at hw;have HS:Hid ((bs l).size=l.length):=hsz;clear hsz;go_enter Tryz.func101,Tryz.ntmps101
 go_wp2_with (first
  |(go_at_call 110;refine(jU _ _ _).mono ?_;rintro e w' ⟨rfl,rfl⟩)
  |(go_at_call 114;refine(hs1 _).mono ?_;rintro e w' ⟨rfl,rfl⟩)
  |(go_at_call 116;refine(hs2 _).mono ?_;rintro e w' ⟨rfl,rfl⟩)
  |(go_at_call 118
    refine hw.mono ?_;rintro e w1 ⟨rfl,hA⟩;have hH1:=hA.other hH (by omega);have hR1:=hA.other hR (by omega);have c0:=hH1.cell 0;have c1:=hH1.cell 1;have c2:=hH1.cell 2;have c3:=hH1.cell 3;have f1:=hH1.free 1;have f2:=hH1.free 2;have hP:=hA.at_.cell 0;have r0:w1.cell? ⟨w.heap.size,0,none⟩=some (.int .i64 0):=hR1.cell 0;have r1:w1.cell? ⟨w.heap.size,1,none⟩=some (.string ⟨#[]⟩):=hR1.cell 1;have r2:w1.cell? ⟨w.heap.size,2,none⟩=some (.int .i64 0):=hR1.cell 2;have r3:w1.cell? ⟨w.heap.size,3,none⟩=some (.int .i64 0):=hR1.cell 3;have g0:=hR1.free 0;have g1:=hR1.free 1;have g2:=hR1.free 2
    have g3:=hR1.free 3))
 go_region
 all_goals
  go_wp2
  exact bodyPost_ret (v:= .tuple #[.agg (vG ⟨2,[],0⟩ i),.int .i64 (((i+1):Nat):Int),.int .i64 101]) (by simp[results,Tryz.results101,go_sem,vG,r0,r1,r2,r3]) rfl ⟨rfl,vE hA⟩
theorem Kb{w:World}{l:List UInt8}{i:Nat}(hi:i<l.length)(hl:l.length≤2000)(k4:l[i]=40):
 Calls Tryz.prog 101 #[.string (bs l),.int .i64 (i:Nat)] w (vP w i ⟨3,[40],0⟩ (i+1) 0):=by
 have hsz:=zJ l;have h1:i<(bs l).size:=by omega
 have h2:((i:Nat):Int)<((bs l).size:Int):=by omega
 have hi2:i≤2000:=by omega
 have k4':(bs l)[i]'h1=40:=by rw[qa];exact k4
 have k1:qx ((bs l)[i]'h1)=false:=by rw[k4'];decide
 have k2:zz ((bs l)[i]'h1)=false:=by rw[k4'];decide
 have hs1:=qZ ((bs l)[i]'h1);rw[k1]at hs1;have hs2:=qM ((bs l)[i]'h1);rw[k2]at hs2;have hv:((((bs l)[i]'h1).toNat:Nat):Int)=40:=by rw[k4'];rfl
 rw[hv]at hs1 hs2
 have hx:(bs l).extract i (i+1)=bs [40]:=by
  rw[jt,List.drop_eq_getElem_cons hi,k4,Nat.add_sub_cancel_left];rfl
 have hb1:((i:Nat):Int)+1≤((bs l).size:Int):=by omega
 clear k1 k2 k4 k4';have HS:Hid ((bs l).size=l.length):=hsz;clear hsz;go_enter Tryz.func101,Tryz.ntmps101
 go_wp2_with (first
  |(go_at_call 110;refine(jU _ _ _).mono ?_;rintro e w' ⟨rfl,rfl⟩)
  |(go_at_call 114;refine(hs1 _).mono ?_;rintro e w' ⟨rfl,rfl⟩)
  |(go_at_call 116;refine(hs2 _).mono ?_;rintro e w' ⟨rfl,rfl⟩))
 go_region
 all_goals
  go_wp2
  exact bodyPost_ret (v:= .tuple #[.agg (vG ⟨3,[40],0⟩ i),.int .i64 (((i+1):Nat):Int),.int .i64 0]) (by simp[results,Tryz.results101,go_sem,vG]) rfl ⟨rfl,xT _⟩
theorem XC{w:World}{l:List UInt8}{i:Nat}(hi:i<l.length)(hl:l.length≤2000)(k4:l[i]=41):
 Calls Tryz.prog 101 #[.string (bs l),.int .i64 (i:Nat)] w (vP w i ⟨3,[41],0⟩ (i+1) 0):=by
 have hsz:=zJ l;have h1:i<(bs l).size:=by omega
 have h2:((i:Nat):Int)<((bs l).size:Int):=by omega
 have hi2:i≤2000:=by omega
 have k4':(bs l)[i]'h1=41:=by rw[qa];exact k4
 have k1:qx ((bs l)[i]'h1)=false:=by rw[k4'];decide
 have k2:zz ((bs l)[i]'h1)=false:=by rw[k4'];decide
 have hs1:=qZ ((bs l)[i]'h1);rw[k1]at hs1;have hs2:=qM ((bs l)[i]'h1);rw[k2]at hs2;have hv:((((bs l)[i]'h1).toNat:Nat):Int)=41:=by rw[k4'];rfl
 rw[hv]at hs1 hs2
 have hx:(bs l).extract i (i+1)=bs [41]:=by
  rw[jt,List.drop_eq_getElem_cons hi,k4,Nat.add_sub_cancel_left];rfl
 have hb1:((i:Nat):Int)+1≤((bs l).size:Int):=by omega
 clear k1 k2 k4 k4';have HS:Hid ((bs l).size=l.length):=hsz;clear hsz;go_enter Tryz.func101,Tryz.ntmps101
 go_wp2_with (first
  |(go_at_call 110;refine(jU _ _ _).mono ?_;rintro e w' ⟨rfl,rfl⟩)
  |(go_at_call 114;refine(hs1 _).mono ?_;rintro e w' ⟨rfl,rfl⟩)
  |(go_at_call 116;refine(hs2 _).mono ?_;rintro e w' ⟨rfl,rfl⟩))
 go_region
 all_goals
  go_wp2
  exact bodyPost_ret (v:= .tuple #[.agg (vG ⟨3,[41],0⟩ i),.int .i64 (((i+1):Nat):Int),.int .i64 0]) (by simp[results,Tryz.results101,go_sem,vG]) rfl ⟨rfl,xT _⟩
theorem XY{w:World}{l:List UInt8}{i:Nat}(hi:i<l.length)(hl:l.length≤2000)(k4:l[i]=44):
 Calls Tryz.prog 101 #[.string (bs l),.int .i64 (i:Nat)] w (vP w i ⟨3,[44],0⟩ (i+1) 0):=by
 have hsz:=zJ l;have h1:i<(bs l).size:=by omega
 have h2:((i:Nat):Int)<((bs l).size:Int):=by omega
 have hi2:i≤2000:=by omega
 have k4':(bs l)[i]'h1=44:=by rw[qa];exact k4
 have k1:qx ((bs l)[i]'h1)=false:=by rw[k4'];decide
 have k2:zz ((bs l)[i]'h1)=false:=by rw[k4'];decide
 have hs1:=qZ ((bs l)[i]'h1);rw[k1]at hs1;have hs2:=qM ((bs l)[i]'h1);rw[k2]at hs2;have hv:((((bs l)[i]'h1).toNat:Nat):Int)=44:=by rw[k4'];rfl
 rw[hv]at hs1 hs2
 have hx:(bs l).extract i (i+1)=bs [44]:=by
  rw[jt,List.drop_eq_getElem_cons hi,k4,Nat.add_sub_cancel_left];rfl
 have hb1:((i:Nat):Int)+1≤((bs l).size:Int):=by omega
 clear k1 k2 k4 k4';have HS:Hid ((bs l).size=l.length):=hsz;clear hsz;go_enter Tryz.func101,Tryz.ntmps101
 go_wp2_with (first
  |(go_at_call 110;refine(jU _ _ _).mono ?_;rintro e w' ⟨rfl,rfl⟩)
  |(go_at_call 114;refine(hs1 _).mono ?_;rintro e w' ⟨rfl,rfl⟩)
  |(go_at_call 116;refine(hs2 _).mono ?_;rintro e w' ⟨rfl,rfl⟩))
 go_region
 all_goals
  go_wp2
  exact bodyPost_ret (v:= .tuple #[.agg (vG ⟨3,[44],0⟩ i),.int .i64 (((i+1):Nat):Int),.int .i64 0]) (by simp[results,Tryz.results101,go_sem,vG]) rfl ⟨rfl,xT _⟩
theorem Kj{w:World}{l:List UInt8}{i:Nat}(hi:i<l.length)(hl:l.length≤2000)(k4:l[i]=61):
 Calls Tryz.prog 101 #[.string (bs l),.int .i64 (i:Nat)] w (vP w i ⟨3,[61],0⟩ (i+1) 0):=by
 have hsz:=zJ l;have h1:i<(bs l).size:=by omega
 have h2:((i:Nat):Int)<((bs l).size:Int):=by omega
 have hi2:i≤2000:=by omega
 have k4':(bs l)[i]'h1=61:=by rw[qa];exact k4
 have k1:qx ((bs l)[i]'h1)=false:=by rw[k4'];decide
 have k2:zz ((bs l)[i]'h1)=false:=by rw[k4'];decide
 have hs1:=qZ ((bs l)[i]'h1);rw[k1]at hs1;have hs2:=qM ((bs l)[i]'h1);rw[k2]at hs2;have hv:((((bs l)[i]'h1).toNat:Nat):Int)=61:=by rw[k4'];rfl
 rw[hv]at hs1 hs2
 have hx:(bs l).extract i (i+1)=bs [61]:=by
  rw[jt,List.drop_eq_getElem_cons hi,k4,Nat.add_sub_cancel_left];rfl
 have hb1:((i:Nat):Int)+1≤((bs l).size:Int):=by omega
 clear k1 k2 k4 k4';have HS:Hid ((bs l).size=l.length):=hsz;clear hsz;go_enter Tryz.func101,Tryz.ntmps101
 go_wp2_with (first
  |(go_at_call 110;refine(jU _ _ _).mono ?_;rintro e w' ⟨rfl,rfl⟩)
  |(go_at_call 114;refine(hs1 _).mono ?_;rintro e w' ⟨rfl,rfl⟩)
  |(go_at_call 116;refine(hs2 _).mono ?_;rintro e w' ⟨rfl,rfl⟩))
 go_region
 all_goals
  go_wp2
  exact bodyPost_ret (v:= .tuple #[.agg (vG ⟨3,[61],0⟩ i),.int .i64 (((i+1):Nat):Int),.int .i64 0]) (by simp[results,Tryz.results101,go_sem,vG]) rfl ⟨rfl,xT _⟩
theorem Ke{w:World}{l:List UInt8}{i:Nat}(hi:i<l.length)(hl:l.length≤2000)(k4:l[i]=59):
 Calls Tryz.prog 101 #[.string (bs l),.int .i64 (i:Nat)] w (vP w i ⟨3,[59],0⟩ (i+1) 0):=by
 have hsz:=zJ l;have h1:i<(bs l).size:=by omega
 have h2:((i:Nat):Int)<((bs l).size:Int):=by omega
 have hi2:i≤2000:=by omega
 have k4':(bs l)[i]'h1=59:=by rw[qa];exact k4
 have k1:qx ((bs l)[i]'h1)=false:=by rw[k4'];decide
 have k2:zz ((bs l)[i]'h1)=false:=by rw[k4'];decide
 have hs1:=qZ ((bs l)[i]'h1);rw[k1]at hs1;have hs2:=qM ((bs l)[i]'h1);rw[k2]at hs2;have hv:((((bs l)[i]'h1).toNat:Nat):Int)=59:=by rw[k4'];rfl
 rw[hv]at hs1 hs2
 have hx:(bs l).extract i (i+1)=bs [59]:=by
  rw[jt,List.drop_eq_getElem_cons hi,k4,Nat.add_sub_cancel_left];rfl
 have hb1:((i:Nat):Int)+1≤((bs l).size:Int):=by omega
 clear k1 k2 k4 k4';have HS:Hid ((bs l).size=l.length):=hsz;clear hsz;go_enter Tryz.func101,Tryz.ntmps101
 go_wp2_with (first
  |(go_at_call 110;refine(jU _ _ _).mono ?_;rintro e w' ⟨rfl,rfl⟩)
  |(go_at_call 114;refine(hs1 _).mono ?_;rintro e w' ⟨rfl,rfl⟩)
  |(go_at_call 116;refine(hs2 _).mono ?_;rintro e w' ⟨rfl,rfl⟩))
 go_region
 all_goals
  go_wp2
  exact bodyPost_ret (v:= .tuple #[.agg (vG ⟨3,[59],0⟩ i),.int .i64 (((i+1):Nat):Int),.int .i64 0]) (by simp[results,Tryz.results101,go_sem,vG]) rfl ⟨rfl,xT _⟩
theorem GF{w:World}{l:List UInt8}{i:Nat}(hi:i<l.length)(hl:l.length≤2000)(k1:qx l[i]=false)(k2:zz l[i]=false)(d1:l[i]≠36)(d2:l[i]≠40)(d3:l[i]≠41)(d4:l[i]≠44)(d5:l[i]≠61)(d6:l[i]≠59):
 Calls Tryz.prog 101 #[.string (bs l),.int .i64 (i:Nat)] w (vP w i ⟨0,[],0⟩ i 101):=by
 have hsz:=zJ l;have h1:i<(bs l).size:=by omega
 have h2:((i:Nat):Int)<((bs l).size:Int):=by omega
 have hi2:i≤2000:=by omega
 have hc1:qx ((bs l)[i]'h1)=false:=by rw[qa];exact k1
 have hs1:=qZ ((bs l)[i]'h1);rw[hc1]at hs1;clear hc1 k1;have hc2:zz ((bs l)[i]'h1)=false:=by rw[qa];exact k2
 have hs2:=qM ((bs l)[i]'h1);rw[hc2]at hs2;clear hc2 k2
 have hv:∀k:Nat,k<256→l[i]≠UInt8.ofNat k→¬((((bs l)[i]'h1).toNat:Nat):Int)=(k:Int):=by
  intro k hk hne e;apply hne;rw[qa]at e;apply UInt8.toNat_inj.1;simp;omega
 have v1:=hv 36 (by decide) d1;have v2:=hv 40 (by decide) d2;have v3:=hv 41 (by decide) d3;have v4:=hv 44 (by decide) d4;have v5:=hv 61 (by decide) d5;have v6:=hv 59 (by decide) d6;clear hv;have HS:Hid ((bs l).size=l.length):=hsz;clear hsz;go_enter Tryz.func101,Tryz.ntmps101
 go_wp2_with (first
  |(go_at_call 110;refine(jU _ _ _).mono ?_;rintro e w' ⟨rfl,rfl⟩)
  |(go_at_call 114;refine(hs1 _).mono ?_;rintro e w' ⟨rfl,rfl⟩)
  |(go_at_call 116;refine(hs2 _).mono ?_;rintro e w' ⟨rfl,rfl⟩))
 go_region
 all_goals
  go_wp2
  exact bodyPost_ret (v:= .tuple #[.agg (vG ⟨0,[],0⟩ i),.int .i64 ((i:Nat):Int),.int .i64 101]) (by simp[results,Tryz.results101,go_sem,vG,VW]) rfl ⟨rfl,xT _⟩
theorem Jy{l:List UInt8}{j:Nat}(h:j<l.length):yu (l.drop j)=xj l[j]:=by
 rw[List.drop_eq_getElem_cons h];rfl
theorem Xw{l:List UInt8}{j:Nat}(h:¬j<l.length):yu (l.drop j)=false:=by
 rw[List.drop_eq_nil_of_le (by omega)];rfl
theorem X3{l:List UInt8}{i:Nat}(hi:i<l.length):one (l.drop i) =
 if qx l[i]then(if 16<zS qK (l.drop i)then .error (102,0)else .ok (⟨0,(l.drop i).take (zS qK (l.drop i)),0⟩,zS qK (l.drop i)))
 else if zz l[i]then(if 9<zS zz (l.drop i)then .error (102,0)else if yu (l.drop (i+zS zz (l.drop i)))then .error (101,zS zz (l.drop i))else .ok (⟨1,[],val ((l.drop i).take (zS zz (l.drop i)))⟩,zS zz (l.drop i)))
 else if l[i]==36 then(if zS zG (l.drop (i+1))=0 then .error (101,1)else if 128<zS zG (l.drop (i+1))then .error (102,0)else if yu (l.drop (i+1+zS zG (l.drop (i+1))))then .error (101,zS zG (l.drop (i+1))+1)else .ok (⟨2,(l.drop (i+1)).take (zS zG (l.drop (i+1))),0⟩,zS zG (l.drop (i+1))+1))
 else if JV l[i]then .ok (⟨3,[l[i]],0⟩,1)
 else .error (101,0):=by
 have hd:=List.drop_eq_getElem_cons hi
 conv=>lhs;rw[hd]
 simp only[one];rw[←hd,List.drop_drop,List.drop_drop]
theorem YQ{c:UInt8}(h:JV c=true):c=40∨c=41∨c=44∨c=61∨c=59:=by
 simp[JV]at h;rcases h with(((h|h)|h)|h)|h<;>simp[h]
theorem fO{w:World}{l:List UInt8}{i n:Nat}{t:Tk}(hi:i<l.length)(hl:l.length≤2000)(h:one (l.drop i)= .ok (t,n)):
 Calls Tryz.prog 101 #[.string (bs l),.int .i64 (i:Nat)] w (vP w i t (i+n) 0):=by
 rw[X3 hi]at h
 split at h
 ·rename_i k1
  split at h
  ·cases h
  ·rename_i hn
   cases h;exact uu hi hl k1 hn
 ·rename_i k1
  have k1:qx l[i]=false:=by simpa using k1
  split at h
  ·rename_i k2
   have h0:zS zz (l.drop i)≠0:=by rw[List.drop_eq_getElem_cons hi,vj,if_pos k2];omega
   split at h
   ·cases h
   ·rename_i hn
    split at h
    ·cases h
    ·rename_i hla
     cases h;by_cases hE:i+zS zz (l.drop i)<l.length
     ·rw[Jy hE]at hla
      exact gX hi hl k1 k2 hn h0 hE (by simpa using hla)
     ·exact uJ hi hl k1 k2 hn h0 (by have:=Zk (p:=zz) (Nat.le_of_lt hi);omega)
  ·rename_i k2
   split at h
   ·rename_i k4
    have k4:=eq_of_beq k4
    split at h
    ·cases h
    ·rename_i h0
     split at h
     ·cases h
     ·rename_i hn
      split at h
      ·cases h
      ·rename_i hla
       cases h;rw[show i+(zS zG (l.drop (i+1))+1)=i+1+zS zG (l.drop (i+1)) by omega];by_cases hE:i+1+zS zG (l.drop (i+1))<l.length
       ·rw[Jy hE]at hla
        exact g7 hi hl k4 h0 hn hE (by simpa using hla)
       ·exact uB hi hl k4 h0 hn (by have:=Zk (p:=zG) (j:=i+1) hi;omega)
   ·split at h
    ·rename_i k5
     cases h;rcases YQ k5 with e|e|e|e|e
     ·rw[e];exact Kb hi hl e
     ·rw[e];exact XC hi hl e
     ·rw[e];exact XY hi hl e
     ·rw[e];exact Kj hi hl e
     ·rw[e];exact Ke hi hl e
    ·cases h
def zcr(w:World)(i er o:Nat)(e:Ending)(w':World):Prop:=∃t E,vP w i t E (er:Nat) e w'∧(er=101→E=i+o)∧(er≠101→er=102∧o=0)
theorem fw{w:World}{l:List UInt8}{i er o:Nat}(hi:i<l.length)(hl:l.length≤2000)(h:one (l.drop i)= .error (er,o)):
 Calls Tryz.prog 101 #[.string (bs l),.int .i64 (i:Nat)] w (zcr w i er o):=by
 rw[X3 hi]at h
 split at h
 ·rename_i k1
  split at h
  ·rename_i hn
   cases h;exact(KX hi hl k1 hn).mono λe w' hr=>⟨_,_,hr,λe=>(by cases e),λ_=>⟨rfl,rfl⟩⟩
  ·cases h
 ·rename_i k1
  have k1:qx l[i]=false:=by simpa using k1
  split at h
  ·rename_i k2
   have h0:zS zz (l.drop i)≠0:=by rw[List.drop_eq_getElem_cons hi,vj,if_pos k2];omega
   split at h
   ·rename_i hn
    cases h;exact(uf hi hl k1 k2 hn).mono λe w' hr=>⟨_,_,hr,λe=>(by cases e),λ_=>⟨rfl,rfl⟩⟩
   ·rename_i hn
    split at h
    ·rename_i hla
     cases h;by_cases hE:i+zS zz (l.drop i)<l.length
     ·rw[Jy hE]at hla
      exact(Gn hi hl k1 k2 hn h0 hE hla).mono λe w' hr=>⟨_,_,hr,λ_=>rfl,λe=>absurd rfl e⟩
     ·rw[Xw hE]at hla;cases hla
    ·cases h
  ·rename_i k2
   have k2:zz l[i]=false:=by simpa using k2
   split at h
   ·rename_i k4
    have k4:=eq_of_beq k4
    split at h
    ·rename_i h0
     cases h;exact(uh hi hl k4 h0).mono λe w' hr=>⟨_,_,hr,λ_=>rfl,λe=>absurd rfl e⟩
    ·rename_i h0
     split at h
     ·rename_i hn
      cases h;exact(u7 hi hl k4 hn).mono λe w' hr=>⟨_,_,hr,λe=>(by cases e),λ_=>⟨rfl,rfl⟩⟩
     ·rename_i hn
      split at h
      ·rename_i hla
       cases h;by_cases hE:i+1+zS zG (l.drop (i+1))<l.length
       ·rw[Jy hE]at hla
        exact(U9 hi hl k4 h0 hn hE hla).mono λe w' hr=>⟨_,_,hr,λ_=>by omega,λe=>absurd rfl e⟩
       ·rw[Xw hE]at hla;cases hla
      ·cases h
   ·rename_i d1
    split at h
    ·cases h
    ·rename_i d2
     cases h;simp[JV]at d2;exact(GF hi hl k1 k2 (by simpa using d1) d2.1.1.1.1 d2.1.1.1.2 d2.1.1.2 d2.1.2 d2.2).mono λe w' hr=>⟨_,_,hr,λ_=>rfl,λe=>absurd rfl e⟩
theorem zi{ops:Array Oper}{rest:List Oper}{o:Oper}{a:Act}{w:World}{Q:Exit→Act→World→Prop}(n:Nat)(hd:o.dst=some n)(h:wpList Tryz.prog ops Q (o::rest) a w):wpList Tryz.prog ops Q (o::rest) a w:=h
def Gb(ts:zL):List Value:=ts.flatMap λt=>(vG t.1 t.2).toList
theorem ur(a b:zL):Gb (a++b)=Gb a++Gb b:=by simp[Gb]
theorem gj(t:Tk×Nat):Gb [t]=(vG t.1 t.2).toList:=by simp[Gb]
theorem FK(ts:zL):∀u ∈ Gb ts,u.oneCell'=true:=by
 intro u hu;obtain⟨t,_,h⟩:=List.mem_flatMap.1 hu;simp[vG]at h;rcases h with rfl|rfl|rfl|rfl<;>rfl
theorem zbq(ts:zL)(i:Nat)(h:i<ts.length)(j:Nat)(hj:j<4):(Gb ts)[i*4+j]?=(vG ts[i].1 ts[i].2)[j]?:=by
 induction ts generalizing i with
 |nil=>simp at h
 |cons t r ih =>
  have e:Gb (t::r)=(vG t.1 t.2).toList++Gb r:=by simp[Gb]
  have e4:(vG t.1 t.2).toList.length=4:=rfl;rw[e];cases i with
  |zero =>
   rw[List.getElem?_append_left (by rw[e4];omega)];simp
  |succ i =>
   rw[List.getElem?_append_right (by rw[e4];omega),e4];simp only[List.length_cons]at h;rw[show(i+1)*4+j-4=i*4+j by omega,ih i (by omega)];simp
def vn(w:World)(base:Nat)(v:Value)(ts:zL):Prop:=w.ownsRow base 78 4 v ts.length (Gb ts)
theorem zI{w w':World}{base e size n:Nat}{v:Value}{xs:List Value}(h:w.ownsRow base e size v n xs)(hb:∀g o,v.ownBlock=some g→w.heap[g]?=some o→w'.heap[g]?=some o):w'.ownsRow base e size v n xs:=by
 refine⟨h.1,?_⟩;rcases h.2 with h0|⟨g,cap,cur,hv,h1,hg,r⟩
 ·exact .inl h0
 ·exact .inr ⟨g,cap,cur,hv,h1,hb g _ (by rw[hv];rfl) hg,r⟩
theorem qR{w:World}{base e size n:Nat}{v:Value}{xs:List Value}(h:w.ownsRow base e size v n xs){g:Nat}(hg:v.ownBlock=some g):g<w.heap.size∧base≤g:=by
 rcases h.2 with⟨rfl,_⟩|⟨g',cap,cur,rfl,h1,hg',r⟩
 ·cases hg
 ·cases hg;exact⟨(Array.getElem?_eq_some_iff.1 hg').1,h1⟩
theorem vn.below{w w':World}{base:Nat}{v:Value}{ts:zL}(h:vn w base v ts)(hb:Below w.heap.size w w'):vn w' base v ts:=
 zI h (λg o e ho=>(hb.block g (qR h e).1).trans ho)
theorem vn.empty(w:World)(base:Nat):vn w base (.slice none 0 0) []:=⟨rfl,.inl ⟨rfl,rfl⟩⟩
theorem vn.mono{w:World}{base base':Nat}{v:Value}{ts:zL}(h:vn w base v ts)(hb:base'≤base):vn w base' v ts:=by
 refine⟨h.1,?_⟩;rcases h.2 with h0|⟨g,cap,cur,hv,h1,r⟩
 ·exact .inl h0
 ·exact .inr ⟨g,cap,cur,hv,by omega,r⟩
theorem Tryz.infoTok:(Tryz.prog.info? 78).map (λi=>(i.zero,i.size,i.bytes))=some (some (.agg #[.int .i64 0,.string ⟨#[]⟩,.int .i64 0,.int .i64 0]),4,40):=by kernel_rfl
theorem QB{w w':World}{base e size n:Nat}{v:Value}{xs:List Value}(h:w.ownsRow base e size v n xs)(hg:w.grownBy w' v.ownBlock)(hb:base≤w.heap.size):Below base w w':=
 ⟨hg.os,hg.tape,hg.output,hg.size,λk hk=>hg.block k (by omega) (λe=>by have:=(qR h e.symm).2;omega)⟩
theorem Zg{ops:Array Oper}{rest:List Oper}{o:Oper}{a:Act}{w:World}{Q:Exit→Act→World→Prop}(hgd:o.guard=none)(s x:Operand)
 (ho:o.op= .call { callee:= .builtin .append,args:=#[s,x],argTypes:=#[44,44] }) (base:Nat) (v:Value) (ts:zL) (hs:a.eval s=v) (hown:vn w base v ts)
 (G:Nat) (t:Tk) (p:Nat) (hx:a.eval x= .slice (some ⟨G,0,none⟩) 1 1) (hG:zm w G 78 (vG t p)) (hn:ts.length≤500) (hbase:base≤w.heap.size)
 (h:∀v' w',vn w' base v' (ts++ [(t,p)])→Below base w w'→wpList Tryz.prog ops Q rest (a.put o.dst v') w'):wpList Tryz.prog ops Q (o::rest) a w:=by
 obtain⟨i0,hi,hz0,hz1,hz2⟩:=info_parts Tryz.infoTok;refine wpList_append_own w hgd s x 44 ho base 78 i0 (.agg #[.int .i64 0,.string ⟨#[]⟩,.int .i64 0,.int .i64 0]) 4 40 Tryz.underlying44 hi hz0 hz1 hz2 rfl (by decide) v ts.length (Gb ts) hs hown ⟨G,0,none⟩ 1 1 (vG t p).toList hx rfl ?_ ?_ (by unfold maxLen;omega) (by omega) hbase ?_
 ·intro j u hj
  have:=hG.cell j;rw[show(⟨G,0,none⟩:Addr).add j=⟨G,j,none⟩ by simp[Addr.add];omega];rw[this]
  simpa using hj
 ·intro u hu
  exact FK [(t,p)] u (by rw[gj];exact hu)
 ·intro v' w' h1 h2 _
  refine h v' w' ?_ (QB hown h2 hbase);show w'.ownsRow base 78 4 v' (ts++ [(t,p)]).length (Gb (ts++ [(t,p)]));rw[ur,gj,List.length_append];exact h1
theorem Vi{x:List UInt8}{er o:Nat}(h:one x= .error (er,o)):er=101∨er=102∧o=0:=by
 cases x with
 |nil=>cases h;exact .inl rfl
 |cons c r =>
  simp only[one]at h
  repeat' split at h
  all_goals first |(cases h;exact .inl rfl)|(cases h;exact .inr ⟨rfl,rfl⟩)|cases h
def VT(w:World)(R:Except (Nat×Nat) zL)(e:Ending)(w':World):Prop:=Below w.heap.size w w'∧match R with
 | .error (er,o)=>e= .returned (.tuple #[.slice none 0 0,.int .i64 (er:Nat),.int .i64 (o:Nat)])
 | .ok ts=>∃v,e= .returned (.tuple #[v,.int .i64 0,.int .i64 (-1)])∧vn w' w.heap.size v ts
theorem gR(w:World)(l:List UInt8)(h:2000<l.length)(hm:l.length≤maxLen):Calls Tryz.prog 90 #[.string (bs l)] w (VT w (vL l)):=by
 unfold maxLen at hm;have hsz:=zJ l;have h1:(2000:Int)<((bs l).size:Int):=by omega
 have HR:Hid (vL l= .error (103,0)):=by show vL l=_;unfold vL;rw[if_pos h]
 clear hsz;go_enter Tryz.func90,Tryz.ntmps90
 go_wp2
 go_ret3
 exact⟨Below.refl _ _,by rw[HR.out];rfl⟩
def ym(w wr:World)(l:List UInt8)(v:Value)(i:Nat)(ts:zL):Prop:=i≤l.length∧Below w.heap.size w wr∧vn wr w.heap.size v ts∧ts.length≤500∧∃f,l.length-i<f∧vL l=Zf ts (ZY f (l.drop i) i ts.length)
theorem ym.step{w wr:World}{l:List UInt8}{v:Value}{i:Nat}{ts:zL}(h:ym w wr l v i ts):∃f,l.length-i≤f∧vL l=Zf ts (ZY (f+1) (l.drop i) i ts.length):=by
 obtain⟨h1,h2,h3,h4,f,h5,h6⟩:=h;cases f with
 |zero=>omega
 |succ f=>exact⟨f,by omega,h6⟩
theorem ym.done{w wr:World}{l:List UInt8}{v:Value}{i:Nat}{ts:zL}(h:ym w wr l v i ts)(hd:¬i+jO false (l.drop i)<l.length):vL l= .ok ts:=by
 obtain⟨f,hf,e⟩:=h.step;rw[e,Yq (by rw[List.drop_drop];exact List.drop_eq_nil_of_le (by omega))];simp[Zf]
theorem ym.ne{l:List UInt8}{i:Nat}(hd:i+jO false (l.drop i)<l.length):(l.drop i).drop (jO false (l.drop i))≠ []:=by
 rw[List.drop_drop];intro e;have:=congrArg List.length e;simp at this;omega
theorem ym.bad{w wr:World}{l:List UInt8}{v:Value}{i er o:Nat}{ts:zL}(h:ym w wr l v i ts)(hd:i+jO false (l.drop i)<l.length)(ho:one (l.drop (i+jO false (l.drop i)))= .error (er,o)):vL l= .error (er,i+jO false (l.drop i)+o):=by
 obtain⟨f,hf,e⟩:=h.step;rw[e,Ju (ym.ne hd) (by rw[List.drop_drop];exact ho)];rfl
theorem ym.many{w wr:World}{l:List UInt8}{v:Value}{i n:Nat}{t:Tk}{ts:zL}(h:ym w wr l v i ts)(hd:i+jO false (l.drop i)<l.length)(ho:one (l.drop (i+jO false (l.drop i)))= .ok (t,n))(h5:ts.length=500):vL l= .error (103,i+jO false (l.drop i)):=by
 obtain⟨f,hf,e⟩:=h.step;rw[h5]at e;rw[e,JD (ym.ne hd) (by rw[List.drop_drop];exact ho)];rfl
theorem ym.next{w wr w':World}{l:List UInt8}{v v':Value}{i n:Nat}{t:Tk}{ts:zL}(h:ym w wr l v i ts)(hd:i+jO false (l.drop i)<l.length)(ho:one (l.drop (i+jO false (l.drop i)))= .ok (t,n))(h5:ts.length≠500)
 (hb:Below w.heap.size w w') (hr:vn w' w.heap.size v' (ts++ [(t,i+jO false (l.drop i))])):ym w w' l v' (i+jO false (l.drop i)+n) (ts++ [(t,i+jO false (l.drop i))]):=by
 obtain⟨f,hf,e⟩:=h.step;have hn:=XO ho;rw[List.length_drop]at hn;have h4:=h.2.2.2.1;refine⟨by omega,hb,hr,by rw[List.length_append];simp;omega,f,by omega,?_⟩;rw[e,JI (ym.ne hd) (by rw[List.drop_drop];exact ho) h5,Vd,List.drop_drop,List.length_append];rw[show i+(jO false (l.drop i)+n)=i+jO false (l.drop i)+n by omega];rfl
theorem Qs{w:World}{base:Nat}{v:Value}{ts:zL}(h:vn w base v ts):∃A C,v= .slice A ts.length C:=by
 rcases h.2 with⟨rfl,h0⟩|⟨g,cap,cur,rfl,_⟩
 ·exact⟨none,0,by rw[h0]⟩
 ·exact⟨_,_,rfl⟩
theorem Vl{w wr w2:World}(h:Below w.heap.size w wr)(h2:Below wr.heap.size wr w2)(o:Obj):Below w.heap.size w (w2.alloc o):=
 (h.trans (h2.mono h.size)).alloc (by have:=h.size;have:=h2.size;omega) o
theorem gg{w wr w2 w3 w4:World}{o1 o2:Obj}(h:Below w.heap.size w wr)(h2:Below wr.heap.size wr w2)(h3:Below w.heap.size ((w2.alloc o1).alloc o2) w3)(h4:Below w3.heap.size w3 w4):Below w.heap.size w w4:=by
 have s1:=h.size;have s2:=h2.size;have s3:=h3.size;simp at s3;exact((((h.trans (h2.mono s1)).alloc (by omega) o1).alloc (by simp;omega) o2).trans h3).trans (h4.mono (by omega))
theorem zbP(w:World)(l:List UInt8)(h:¬2000<l.length):Calls Tryz.prog 90 #[.string (bs l)] w (VT w (vL l)):=by
 have hl:l.length≤2000:=by omega
 have hsz:=zJ l;have h1:¬(2000:Int)<((bs l).size:Int):=by omega
 have HS:Hid ((bs l).size=l.length):=hsz;have hp:=λW=>ki W l 0 (Nat.zero_le _) hl
 clear hsz;simp only[Nat.zero_add]at hp;go_enter Tryz.func90,Tryz.ntmps90
 go_wp2_with (go_at_call 100;refine(hp _).mono ?_;rintro e w1 ⟨rfl,hb1⟩)
 go_loopw [5,6] (λv z wr=>∃(i:Nat) (ts:zL),ym w wr l v i ts∧z= .int .i64 ((i+jO false (l.drop i):Nat):Int)) (λ_ z _=>2000-(intOf z).toNat)
 case atStart=>exact⟨0,[],⟨Nat.zero_le _,hb1,vn.empty _ _,by simp,l.length+1,by omega,by rw[YN];unfold vL;rw[if_neg h];rfl⟩,by simp⟩
 case round =>
  clear hb1 hp;obtain⟨i,ts,hA,rfl⟩:=hrel;have hle:=Hl false (l.drop i);rw[List.length_drop]at hle;obtain⟨hi,hbw,hrow,h500,-⟩:=id hA;obtain⟨A,C,rfl⟩:=Qs hrow
  obtain⟨J,hJ⟩:∃J,J=i+jO false (l.drop i):=⟨_,rfl⟩
  have hJ2:J≤2000:=by omega
  have HJ:Hid (J=i+jO false (l.drop i)):=hJ;rw[←hJ]
  obtain⟨M,hM⟩:∃M,M=ts.length:=⟨_,rfl⟩
  have HM:Hid (M=ts.length):=hM;rw[←hM]at h500 hrow hA ⊢;have hM2:M≤500:=h500;clear hM h500 hle;by_cases hlt:J<l.length
  ·have h2:((J:Nat):Int)<((bs l).size:Int):=by rw[HS.out];omega
   cases ho:one (l.drop J)with
   |error r =>
    obtain⟨er,o⟩:=r;have hbad:=hA.bad (by rw[←hJ];exact hlt) (by rw[←hJ];exact ho);rw[←hJ]at hbad;have ht:=λW=>fw (w:=W) hlt hl ho
    have HB:Hid (vL l= .error (er,J+o)):=hbad;rcases Vi ho with e|⟨e,e'⟩
    ·subst e
     clear hbad ho hJ hA
     go_wp2_with (go_at_call 101;refine(ht _).mono ?_;rintro e w2 ⟨t,E,⟨rfl,hb2⟩,hE,-⟩;have HE:Hid (E=J+o):=hE rfl;clear hE;simp only[vG])
     go_ret3
     exact⟨Vl hbw hb2 _,by rw[HB.out,←HE.out];rfl⟩
    ·subst e e'
     clear hbad ho hJ hA
     go_wp2_with (go_at_call 101;refine(ht _).mono ?_;rintro e w2 ⟨t,E,⟨rfl,hb2⟩,hE,-⟩;simp only[vG])
     go_ret3
     exact⟨Vl hbw hb2 _,by rw[HB.out];rfl⟩
   |ok r =>
    obtain⟨t,n⟩:=r;have ht:=λW=>fO (w:=W) hlt hl ho
    have hn:=XO ho;rw[List.length_drop]at hn;have hlt':i+jO false (l.drop i)<l.length:=by rw[←hJ];exact hlt
    have ho':one (l.drop (i+jO false (l.drop i)))= .ok (t,n):=by rw[←hJ];exact ho
    by_cases h5:M=500
    ·have hmany:=hA.many hlt' ho' (HM.out ▸ h5)
     rw[←hJ]at hmany;have HB:Hid (vL l= .error (103,J)):=hmany;clear hmany ho ho' hlt' hJ hA;subst h5
     go_wp2_with (go_at_call 101;refine(ht _).mono ?_;rintro e w2 ⟨rfl,hb2⟩;simp only[vG])
     go_ret3
     exact⟨Vl hbw hb2 _,by rw[HB.out];rfl⟩
    ·have h5':¬((M:Nat):Int)=500:=by omega
     have hnext:=λw' v' hb hr=>hA.next (w':=w') (v':=v') hlt' ho' (by rw[←HM.out];exact h5) hb hr
     rw[←hJ]at hnext;have hp:=λW=>ki W l (J+n) (by omega) hl
     obtain⟨E,hE⟩:∃E,E=J+n:=⟨_,rfl⟩
     rw[←hE]at hp ht hnext;have hE1:J<E:=by omega
     have hE2:E≤2000:=by omega
     clear ho ho' hlt' hJ hA hE
     go_wp2_with (first
      |(go_at_call 101;refine(ht _).mono ?_;rintro e w2 ⟨rfl,hb2⟩;simp only[vG])
      |(go_at_call 100;refine(hp _).mono ?_;rintro e w4 ⟨rfl,hb4⟩)
      |(refine zi 44 rfl ?_
        refine Zg rfl _ _ rfl w.heap.size _ ts rfl (((hrow.below hb2).below ((Below.refl _ _).alloc (Nat.le_refl _) _)).below ((Below.refl _ _).alloc (Nat.le_refl _) _)) (w2.heap.size+1) t J rfl (zm.new_at (by simp)) (by rw[←HM.out];exact hM2) (by have:=hbw.size;have:=hb2.size;simp;omega) ?_
        intro v' w3 hr3 hb3))
     go_roundw
     case rel =>
      have hbA:Below w.heap.size w w4:=gg hbw hb2 hb3 hb4;exact⟨E,_,hnext w4 _ hbA (hr3.below hb4),rfl⟩
     case measure=>simp[intOf];omega
  ·have h2:¬((J:Nat):Int)<((bs l).size:Int):=by rw[HS.out];omega
   have hdone:=hA.done (by rw[←hJ];exact hlt);have HB:Hid (vL l= .ok ts):=hdone;clear hdone hA hJ
   go_wp2
   go_ret3
   exact⟨hbw,by rw[HB.out];exact⟨_,rfl,hrow⟩⟩
theorem Ue(w:World)(l:List UInt8)(hm:l.length≤maxLen):Calls Tryz.prog 90 #[.string (bs l)] w (VT w (vL l)):=by
 by_cases h:2000<l.length
 ·exact gR w l h hm
 ·exact zbP w l h
theorem vn.lies{w:World}{base:Nat}{v:Value}{ts:zL}(h:vn w base v ts)(hne:ts≠ []):∃g C,v= .slice (some ⟨g,0,none⟩) ts.length C∧base≤g∧g<w.heap.size∧ts.length≤C∧C≤maxLen ∧
 (∃cur,zm w g 78 cur∧cur.size=C*4∧cur.toList.take (ts.length*4)=Gb ts)∧∀i (hi:i<ts.length) j,j<4→w.cell? ⟨g,i*4+j,none⟩=(vG ts[i].1 ts[i].2)[j]?:=by
 rcases h.2 with⟨rfl,h0⟩|⟨g,cap,cur,rfl,h1,hg,hn,hm,hs,ht⟩
 ·exact absurd (List.length_eq_zero_iff.1 h0) hne
 ·refine⟨g,cap,rfl,h1,(Array.getElem?_eq_some_iff.1 hg).1,hn,hm,⟨cur,hg,hs,ht⟩,λi hi j hj=>?_⟩
  rw[←zbq ts i hi j hj,←ht,List.getElem?_take_of_lt (by omega),Array.getElem?_toList];exact cell_of_row w g (i*4+j) cur _ _ hg
theorem uv(x:List UInt8)(w:World):Calls Tryz.prog 91 #[.string (bs x)] w λe w'=>e= .returned (.bool (Zt x))∧w'=w:=by
 have ht:=zp x;go_enter Tryz.func91,Tryz.ntmps91
 go_wp2
 all_goals
  go_ret
  refine⟨qW ?_,rfl⟩
  symm
  simp_all only[Zt,Bool.true_or,Bool.or_true,Bool.or_false,Bool.false_eq_true]
def Zo(x:List UInt8)(k:Nat):Bool:=(RW.take k).any λy=>y==x
theorem kP(x:List UInt8)(k:Nat)(h:k<14):Zo x (k+1)=(Zo x k||(RW[k]'h==x)):=by
 unfold Zo;rw[List.take_succ_eq_append_getElem h,List.any_append];simp
theorem Vo(x:List UInt8):Zo x 14=Zt x:=by
 unfold Zo Zt;have e:∀y:List UInt8,(y==x)=(x==y):=λy=>BEq.comm
 simp only[RW,List.take_succ_cons,List.take_zero,List.any_cons,List.any_nil,Bool.or_false,Bool.or_assoc,e]
theorem uN(x:List UInt8)(k:Nat)(h:k<14)(e:(RW[k]'h==x)=true):Zt x=true:=by
 rw[←Vo];unfold Zo;exact List.any_eq_true.2 ⟨_,List.mem_take_iff_getElem.2 ⟨k,by simp[RW];omega,rfl⟩,e⟩
def Qt:Array Value:=#[.string ⟨#[100,101,118,105,99,101]⟩,.string ⟨#[106,111,117,114,110,97,108]⟩,.string ⟨#[107,101,121]⟩,.string ⟨#[114,111,111,116]⟩,.string ⟨#[118,111,108,117,109,101]⟩,.string ⟨#[101,120,112,111,114,116]⟩,.string ⟨#[114,101,97,100,111,110,108,121]⟩,.string ⟨#[108,105,110,101,97,114]⟩,.string ⟨#[99,111,110,99,97,116]⟩,.string ⟨#[109,105,114,114,111,114]⟩,.string ⟨#[115,110,97,112,115,104,111,116]⟩,.string ⟨#[99,114,121,112,116]⟩,.string ⟨#[105,110,116,101,103,114,105,116,121]⟩,.string ⟨#[118,101,114,105,116,121]⟩]
theorem kF(k:Nat)(h:k<14):Qt[k]?=some (.string (bs (RW[k]'h))):=by
 match k,h with
 |0,_=>rfl
 |1,_=>rfl
 |2,_=>rfl
 |3,_=>rfl
 |4,_=>rfl
 |5,_=>rfl
 |6,_=>rfl
 |7,_=>rfl
 |8,_=>rfl
 |9,_=>rfl
 |10,_=>rfl
 |11,_=>rfl
 |12,_=>rfl
 |13,_=>rfl
theorem Ql(x:List UInt8)(w:World):Calls Tryz.prog 52 #[.string (bs x)] w λe w'=>e= .returned (.bool (Zt x))∧Below w.heap.size w w':=by
 have ht:=zp x;have hH:zm (w.alloc (.cells Qt 9)) w.heap.size 9 Qt:=zm.new _ _ _;have hB:Below w.heap.size w (w.alloc (.cells Qt 9)):=(Below.refl _ _).alloc (Nat.le_refl _) _
 obtain⟨W,hW⟩:∃W,W=w.alloc (.cells Qt 9):=⟨_,rfl⟩
 rw[←hW]at hH hB;have HW:Hid (W=w.alloc (.cells Qt 9)):=hW;clear hW;go_enter Tryz.func52,Tryz.ntmps52
 go_wp2_with (first
  |(refine zi 5 rfl ?_
    refine jP (some 5) (.slice (some ⟨w.heap.size,0,none⟩) 14 14) W rfl (by rfl) (by rw[HW.out];kernel_rfl) ?_))
 go_loop [4] (λz=>∃k:Nat,k≤14∧z= .int .i64 (k:Nat)∧Zo x k=false) (λz=>14-(intOf z).toNat)
 case atStart=>exact⟨0,Nat.zero_le _,rfl,rfl⟩
 case round =>
  obtain⟨k,hk,rfl,hr⟩:=hrel;have HR:Hid (Zo x k=false):=hr;clear hr;by_cases hlt:k<14
  ·have hc:W.cell? ⟨w.heap.size,k,none⟩=some (.string (bs (RW[k]'hlt))):=by rw[hH.cell];exact kF k hlt
   have ht2:=zp (RW[k]'hlt);have hy:=uN x k hlt;have hn:=kP x k hlt;generalize RW[k]'hlt=y at hc ht2 hy hn;have HN:Hid (Zo x (k+1)=(Zo x k||(y==x))):=hn;have HY:Hid ((y==x)=true→Zt x=true):=hy;clear hy hn
   cases e:(y==x)
   ·go_wp2
    go_round
    case rel=>exact⟨k+1,by omega,by go_num,by rw[HN.out,HR.out,e];rfl⟩
    case measure=>simp[intOf];omega
   ·go_wp2
    go_ret
    exact⟨qW (HY.out e).symm,hB⟩
  ·have hk14:k=14:=by omega
   subst hk14
   go_wp2
   go_ret
   exact⟨qW (by rw[←Vo,HR.out]),hB⟩
def QD(w:World)(v:Value)(l:List (List UInt8)):Prop:=(l= []∧v= .slice none 0 0)∨∃g,v= .slice (some ⟨g,0,none⟩) l.length l.length∧zm w g 9 (l.map λx=>Value.string (bs x)).toArray
def kw(ks:List Kd):List (List UInt8):=ks.map Kd.w
theorem QD.below{w w':World}{v:Value}{l:List (List UInt8)}(h:QD w v l)(hb:Below w.heap.size w w'):QD w' v l:=by
 rcases h with h|⟨g,rfl,h⟩
 ·exact .inl h
 ·exact .inr ⟨g,rfl,h.below hb h.lt⟩
theorem Kf{x:List UInt8}(h:(x== [108,105,110,101,97,114])=true):qn x=([.ex,.nu,.nu],false):=by
 rw[eq_of_beq h];rfl
theorem KF{x:List UInt8}(h:(x== [99,111,110,99,97,116])=true):qn x=([.ex],true):=by
 rw[eq_of_beq h];rfl
theorem X9{x:List UInt8}(h:(x== [109,105,114,114,111,114])=true):qn x=([.ex],true):=by
 rw[eq_of_beq h];rfl
theorem Vr{x:List UInt8}(h:(x== [115,110,97,112,115,104,111,116])=true):qn x=([.ex,.ex,.nu],false):=by
 rw[eq_of_beq h];rfl
theorem UG{x:List UInt8}(h:(x== [99,114,121,112,116])=true):qn x=([.ex,.na],false):=by
 rw[eq_of_beq h];rfl
theorem Vf{x:List UInt8}(h:(x== [105,110,116,101,103,114,105,116,121])=true):qn x=([.ex,.na],false):=by
 rw[eq_of_beq h];rfl
theorem Kk{x:List UInt8}(h:(x== [118,101,114,105,116,121])=true):qn x=([.ex,.na],false):=by
 rw[eq_of_beq h];rfl
theorem uy{x:List UInt8}(hLinear:(x== [108,105,110,101,97,114])=false)(hConcat:(x== [99,111,110,99,97,116])=false)(hMirror:(x== [109,105,114,114,111,114])=false)(hSnapshot:(x== [115,110,97,112,115,104,111,116])=false)(hCrypt:(x== [99,114,121,112,116])=false)(hIntegrity:(x== [105,110,116,101,103,114,105,116,121])=false)(hVerity:(x== [118,101,114,105,116,121])=false):qn x=([],false):=by
 simp only[beq_eq_false_iff_ne]at *;unfold qn;rw[if_neg (show ¬x=qX from hLinear),if_neg (show ¬(x=qQ∨x=je) by(rintro(h|h);exact hConcat h;exact hMirror h)),if_neg (show ¬x=qv from hSnapshot),if_neg (show ¬(x=jl∨x=qb∨x=jf) by(rintro(h|h|h);exact hCrypt h;exact hIntegrity h;exact hVerity h))]
theorem dX(x:List UInt8)(w:World):Calls Tryz.prog 92 #[.string (bs x)] w λe w'=>∃v,e= .returned (.tuple #[v,.bool (qn x).2])∧Below w.heap.size w w'∧QD w' v (kw (qn x).1):=by
 have ht:=zp x;go_enter Tryz.func92,Tryz.ntmps92
 go_wp2
 all_goals
  go_ret2
  first
   |(rw[Kf (by assumption)];exact⟨_,rfl,(Below.refl _ _).alloc (Nat.le_refl _) _,.inr ⟨w.heap.size,rfl,zm.new _ _ _⟩⟩)
   |(rw[KF (by assumption)];exact⟨_,rfl,(Below.refl _ _).alloc (Nat.le_refl _) _,.inr ⟨w.heap.size,rfl,zm.new _ _ _⟩⟩)
   |(rw[X9 (by assumption)];exact⟨_,rfl,(Below.refl _ _).alloc (Nat.le_refl _) _,.inr ⟨w.heap.size,rfl,zm.new _ _ _⟩⟩)
   |(rw[Vr (by assumption)];exact⟨_,rfl,(Below.refl _ _).alloc (Nat.le_refl _) _,.inr ⟨w.heap.size,rfl,zm.new _ _ _⟩⟩)
   |(rw[UG (by assumption)];exact⟨_,rfl,(Below.refl _ _).alloc (Nat.le_refl _) _,.inr ⟨w.heap.size,rfl,zm.new _ _ _⟩⟩)
   |(rw[Vf (by assumption)];exact⟨_,rfl,(Below.refl _ _).alloc (Nat.le_refl _) _,.inr ⟨w.heap.size,rfl,zm.new _ _ _⟩⟩)
   |(rw[Kk (by assumption)];exact⟨_,rfl,(Below.refl _ _).alloc (Nat.le_refl _) _,.inr ⟨w.heap.size,rfl,zm.new _ _ _⟩⟩)
   |(rw[uy (by assumption) (by assumption) (by assumption) (by assumption) (by assumption) (by assumption) (by assumption)];exact⟨_,rfl,Below.refl _ _,.inl ⟨rfl,rfl⟩⟩)
   |(exfalso;simp_all only[Bool.false_eq_true])
theorem zdl(t:Tk)(q:Nat)(w:World):Calls Tryz.prog 75 #[.agg (vG t q)] w λe w'=>e= .returned (.bool (yp t))∧Below w.heap.size w w':=by
 have hr:=uv t.s;unfold yp;by_cases h0:t.kind=0
 ·have h1:((t.kind:Nat):Int)=0:=by omega
  cases e:Zt t.s
  all_goals
   rw[e]at hr;unfold vG;clear e;go_enter Tryz.func75,Tryz.ntmps75
   go_wp2_with (go_at_call 91;refine(hr _).mono ?_;rintro e w' ⟨rfl,rfl⟩)
   go_ret
   exact⟨by simp[h0],(Below.refl _ _).alloc (Nat.le_refl _) _⟩
 ·have h1:¬((t.kind:Nat):Int)=0:=by omega
  unfold vG;go_enter Tryz.func75,Tryz.ntmps75
  go_wp2
  go_ret
  exact⟨by simp[h0],(Below.refl _ _).alloc (Nat.le_refl _) _⟩
theorem Gr(l:List (List UInt8))(x:List UInt8)(k:Nat)(h:k<l.length):(l.take (k+1)).any (λy=>x==y)=((l.take k).any (λy=>x==y)||(x==l[k])):=by
 rw[List.take_succ_eq_append_getElem h,List.any_append];simp
theorem zah(l:List (List UInt8))(x:List UInt8)(k:Nat)(h:k<l.length)(e:(x==l[k])=true):l.any (λy=>x==y)=true:=
 List.any_eq_true.2 ⟨_,List.getElem_mem h,e⟩
theorem zaq(l:List (List UInt8))(x:List UInt8)(w:World)(v:Value)(h:QD w v l)(hl:l.length≤100):Calls Tryz.prog 102 #[v,.string (bs x)] w λe w'=>∃i:Int,e= .returned (.int .i64 i)∧decide (0≤i)=l.any (λy=>x==y)∧w'=w:=by
 have ht:=zp x;rcases h with⟨rfl,rfl⟩|⟨g,rfl,hH⟩
 ·go_enter Tryz.func102,Tryz.ntmps102
  go_wp2
  go_loop [8] (λz=>z= .int .i64 0) (λ_=>0)
  case atStart=>rfl
  case round =>
   subst hrel
   go_wp2
   go_ret
   exact⟨-1,rfl,by simp,rfl⟩
 ·obtain⟨n,hn⟩:∃n,n=l.length:=⟨_,rfl⟩
  have HN:Hid (n=l.length):=hn;have hn2:n≤100:=by omega
  rw[←hn];clear hn;go_enter Tryz.func102,Tryz.ntmps102
  go_wp2
  go_loop [8] (λz=>∃k:Nat,k≤n∧z= .int .i64 (k:Nat)∧(l.take k).any (λy=>x==y)=false) (λz=>n-(intOf z).toNat)
  case atStart=>exact⟨0,Nat.zero_le _,rfl,rfl⟩
  case round =>
   obtain⟨k,hk,rfl,hr⟩:=hrel;have HR:Hid ((l.take k).any (λy=>x==y)=false):=hr;clear hr;by_cases hlt:k<n
   ·have hlt':k<l.length:=by rw[←HN.out];exact hlt
    have h2:(k:Int)<(n:Int):=by omega
    have hc:w.cell? ⟨g,k,none⟩=some (.string (bs (l[k]'hlt'))):=by rw[hH.cell];simp[hlt']
    have ht2:=zp (l[k]'hlt');have hy:=zah l x k hlt';have hs:=Gr l x k hlt';generalize l[k]'hlt'=y at hc ht2 hy hs;have HS:Hid ((l.take (k+1)).any (λy=>x==y)=((l.take k).any (λy=>x==y)||(x==y))):=hs;have HY:Hid ((x==y)=true→l.any (λy=>x==y)=true):=hy;clear hy hs hlt'
    cases e:(x==y)
    ·go_wp2
     go_round
     case rel=>exact⟨k+1,by omega,by go_num,by rw[HS.out,HR.out,e];rfl⟩
     case measure=>simp[intOf];omega
    ·go_wp2
     go_ret
     exact⟨_,rfl,by rw[HY.out e];simp,rfl⟩
   ·have hk2:k=n:=by omega
    subst hk2
    go_wp2
    go_ret
    refine⟨-1,rfl,?_,rfl⟩;have:=HR.out;rw[HN.out,List.take_length]at this;rw[this];rfl
theorem Yt(l:List (List UInt8))(x:List UInt8)(w:World)(v:Value)(h:QD w v l)(hl:l.length≤100):Calls Tryz.prog 95 #[v,.string (bs x)] w λe w'=>e= .returned (.bool (l.any (λy=>x==y)))∧w'=w:=by
 have hi:=zaq l x w v h hl;go_enter Tryz.func95,Tryz.ntmps95
 go_wp2_with (go_at_call 102;refine hi.mono ?_;rintro e w' ⟨i,rfl,hd,rfl⟩)
 go_ret
 exact⟨qW (by rw[←hd]),rfl⟩
theorem Hc(a b:List UInt8):bs a++bs b=bs (a++b):=by
 apply ByteArray.ext;simp[bs]
theorem ua(w:World)(l:List UInt8)(hm:l.length≤maxLen){er o:Nat}(h:vL l= .error (er,o)):Calls Tryz.prog 90 #[.string (bs l)] w λe w'=>e= .returned (.tuple #[.slice none 0 0,.int .i64 (er:Nat),.int .i64 (o:Nat)])∧Below w.heap.size w w':=by
 have:=Ue w l hm;rw[h]at this;exact this.mono λe w' hr=>⟨hr.2,hr.1⟩
theorem fq(w:World)(l:List UInt8)(hm:l.length≤maxLen){ts:zL}(h:vL l= .ok ts):Calls Tryz.prog 90 #[.string (bs l)] w λe w'=>∃A C,e= .returned (.tuple #[.slice A ts.length C,.int .i64 0,.int .i64 (-1)])∧Below w.heap.size w w'∧vn w' w.heap.size (.slice A ts.length C) ts:=by
 have:=Ue w l hm;rw[h]at this;refine this.mono ?_;rintro e w' ⟨hb,v,rfl,hr⟩;obtain⟨A,C,rfl⟩:=Qs hr;exact⟨A,C,rfl,hb,hr⟩
theorem qE{f:FuncId}{args:Array Value}{w:World}{R:Ending→World→Prop}(i:Nat)(v:Value)(h:args[i]?=some v)(k:Calls Tryz.prog f args w R):Calls Tryz.prog f args w R:=k
abbrev Kp(p:Nat)(w w':World):Prop:=w.grownBy w' (some p)
theorem Kp.refl(p:Nat)(w:World):Kp p w w:=⟨rfl,rfl,rfl,Nat.le_refl _,λ_ _ _=>rfl⟩
theorem Kp.trans{p:Nat}{a b c:World}(h:Kp p a b)(k:Kp p b c):Kp p a c:=
 ⟨k.os.trans h.os,k.tape.trans h.tape,k.output.trans h.output,Nat.le_trans h.size k.size,λi hi hn=>(k.block i (Nat.lt_of_lt_of_le hi h.size) hn).trans (h.block i hi hn)⟩
theorem Kp.of{p:Nat}{w w':World}(h:Below w.heap.size w w'):Kp p w w':=⟨h.os,h.tape,h.output,h.size,λi hi _=>h.block i hi⟩
theorem Kp.alloc{p:Nat}{w w':World}(h:Kp p w w')(o:Obj):Kp p w (w'.alloc o):=h.trans (Kp.of ((Below.refl _ _).alloc (Nat.le_refl _) o))
theorem Kp.below{p:Nat}{w w':World}(h:Kp p w w')(hp:p<w.heap.size):Below p w w':=⟨h.os,h.tape,h.output,h.size,λk hk=>h.block k (by omega) (λe=>by cases e;omega)⟩
theorem zm.kp{p:Nat}{w w':World}{g t:Nat}{cs:Array Value}(h:zm w g t cs)(hk:Kp p w w')(hne:g≠p):zm w' g t cs:=h.grown hk hne
def zbm(w:World)(g off:Nat)(ts:zL):Prop:=∀i (hi:i<ts.length) j,j<4→w.cell? ⟨g,off+i*4+j,none⟩=(vG ts[i].1 ts[i].2)[j]?
theorem QD.kp{p:Nat}{w w':World}{v:Value}{l:List (List UInt8)}(h:QD w v l)(hk:Kp p w w')(hne:v.ownBlock≠some p):QD w' v l:=by
 rcases h with h|⟨g,rfl,h⟩
 ·exact .inl h
 ·exact .inr ⟨g,rfl,h.kp hk (λe=>hne (by rw[←e];rfl))⟩
theorem Kp.setNew{p:Nat}{w w':World}(h:Kp p w w'){q:Addr}(hq:w.heap.size≤q.block)(v:Value):Kp p w (w'.setCell q v):=
 ⟨h.os,h.tape,h.output,by have:=h.size;simpa using this,λk hk hn=>(Below.heap_setCell w' q v k (by omega)).trans (h.block k hk hn)⟩
theorem Kp.setP{p:Nat}{w w':World}(h:Kp p w w')(j:Nat)(v:Value):Kp p w (w'.setCell ⟨p,j,none⟩ v):=
 ⟨h.os,h.tape,h.output,by have:=h.size;simpa using this,λk hk hn=>(Below.heap_setCell w' ⟨p,j,none⟩ v k (λe=>hn (by rw[e]))).trans (h.block k hk hn)⟩
theorem zm.putP{w:World}{g t:Nat}{cs:Array Value}(h:zm w g t cs)(j:Nat)(v:Value):zm (w.setCell ⟨g,j,none⟩ v) g t (cs.setIfInBounds j v):=by
 have h':w.heap[g]?=some (.cells cs t (0,0)):=h;show(w.setCell ⟨g,j,none⟩ _).heap[g]?=_;simp only[World.setCell,Array.getElem?_modify,h',if_pos,Option.map_some];rfl
theorem Kt{fn:Func}{R:Ending→World→Prop}{a:Act}{W:World}{s g:Nat}{x0 x1 x2 x3:Value}(hr:fn.results= #[.cell s 78])(hs:a.tmps[s]?.getD undef= .pointer (some ⟨g,0,none⟩))(hH:zm W g 78 #[x0,x1,x2,x3])(hd:a.defers= [])(h:R (.returned (.agg #[x0,x1,x2,x3])) W):bodyPost Tryz.prog fn R .ret a W:=by
 have q0:=hH.cell 0;have q1:=hH.cell 1;have q2:=hH.cell 2;have q3:=hH.cell 3;exact bodyPost_ret (by simp only[results,hr];simp[hs,go_sem,q0,q1,q2,q3]) hd h
theorem jL{fn:Func}{R:Ending→World→Prop}{a:Act}{W:World}{s g:Nat}{x0 x1 x2 x3 x4:Value}(hr:fn.results= #[.cell s 24])(hs:a.tmps[s]?.getD undef= .pointer (some ⟨g,0,none⟩))(hH:zm W g 24 #[x0,x1,x2,x3,x4])(hd:a.defers= [])(h:R (.returned (.agg #[x0,x1,x2,x3,x4])) W):bodyPost Tryz.prog fn R .ret a W:=by
 have q0:=hH.cell 0;have q1:=hH.cell 1;have q2:=hH.cell 2;have q3:=hH.cell 3;have q4:=hH.cell 4;exact bodyPost_ret (by simp only[results,hr];simp[hs,go_sem,q0,q1,q2,q3,q4]) hd h
theorem zm.set4{w:World}{g t:Nat}{a b c d:Value}(h:zm w g t #[a,b,c,d])(x0 x1 x2 x3:Value):zm ((((w.setCell ⟨g,0,none⟩ x0).setCell ⟨g,1,none⟩ x1).setCell ⟨g,2,none⟩ x2).setCell ⟨g,3,none⟩ x3) g t #[x0,x1,x2,x3]:=by
 have:=(((h.putP 0 x0).putP 1 x1).putP 2 x2).putP 3 x3
 simpa using this
theorem zm.set5{w:World}{g t:Nat}{a b c d e:Value}(h:zm w g t #[a,b,c,d,e])(x0 x1 x2 x3 x4:Value):zm (((((w.setCell ⟨g,0,none⟩ x0).setCell ⟨g,1,none⟩ x1).setCell ⟨g,2,none⟩ x2).setCell ⟨g,3,none⟩ x3).setCell ⟨g,4,none⟩ x4) g t #[x0,x1,x2,x3,x4]:=by
 have:=((((h.putP 0 x0).putP 1 x1).putP 2 x2).putP 3 x3).putP 4 x4
 simpa using this
theorem zbm.kp{w w':World}{p g off:Nat}{ts:zL}(h:zbm w g off ts)(hk:Kp p w w')(hg:g≠p)(hl:g<w.heap.size):zbm w' g off ts:=
 λi hi j hj=>(World.cell?_of_block (hk.block g hl (λe=>hg (by cases e;rfl)))).trans (h i hi j hj)
def qD(n:Nd)(v:Value):Array Value:=#[.string (bs n.op),.string (bs n.s),.int .i64 n.n,.int .i64 n.a,v]
def Yw(l:List Nd)(vs:List Value):List Value:=(l.zip vs).flatMap λx=>(qD x.1 x.2).toList
inductive yn (w:World) (P:Nat→Prop):List Nd→Value→Prop where
 |mk (l:List Nd) (vs:List Value) (v:Value):vs.length=l.length→w.ownsRow 0 24 5 v l.length (Yw l vs)→(∀g,v.ownBlock=some g→P g) →
   (∀i (h:i<l.length) (h':i<vs.length),yn w P l[i].l vs[i])→yn w P l v
theorem yn.keep{w w':World}{P:Nat→Prop}{l:List Nd}{v:Value}(h:yn w P l v)(hk:∀g o,P g→w.heap[g]?=some o→w'.heap[g]?=some o):yn w' P l v:=by
 induction h with
 |mk l vs v h1 h2 h3 h4 ih=>exact .mk l vs v h1 (zI h2 (λg o e ho=>hk g o (h3 g e) ho)) h3 ih
theorem yn.mono{w:World}{P Q:Nat→Prop}{l:List Nd}{v:Value}(h:yn w P l v)(hk:∀g,P g→Q g):yn w Q l v:=by
 induction h with
 |mk l vs v h1 h2 h3 h4 ih=>exact .mk l vs v h1 h2 (λg e=>hk g (h3 g e)) ih
theorem yn.imp{w:World}{P Q:Nat→Prop}{l:List Nd}{v:Value}(h:yn w P l v)(hk:∀g,P g→g<w.heap.size→Q g):yn w Q l v:=by
 induction h with
 |mk l vs v h1 h2 h3 h4 ih=>exact .mk l vs v h1 h2 (λg e=>hk g (h3 g e) (qR h2 e).1) ih
theorem yn.grow{w w':World}{P:Nat→Prop}{l:List Nd}{v:Value}(h:yn w P l v)(hb:Below w.heap.size w w'):yn w' P l v:=
 h.keep λg o _ ho=>(hb.block g (Array.getElem?_eq_some_iff.1 ho).1).trans ho
theorem yn.kp{w w':World}{P:Nat→Prop}{l:List Nd}{v:Value}{p:Nat}(h:yn w P l v)(hb:Kp p w w')(hp:∀g,P g→g≠p):yn w' P l v:=
 h.keep λg o hg ho=>(hb.block g (Array.getElem?_eq_some_iff.1 ho).1 (λe=>hp g hg (by cases e;rfl))).trans ho
theorem yn.nil(w:World)(P:Nat→Prop):yn w P [] (.slice none 0 0):= .mk [] [] _ rfl ⟨rfl,.inl ⟨rfl,rfl⟩⟩ (λg e=>by cases e) (λi h=>by simp at h)
theorem yn.slice{w:World}{P:Nat→Prop}{l:List Nd}{v:Value}(h:yn w P l v):∃A C,v= .slice A l.length C:=by
 cases h with
 |mk l vs v h1 h2 h3 h4 =>
  rcases h2.2 with⟨rfl,h0⟩|⟨g,cap,cur,rfl,_⟩
  ·exact⟨none,0,by rw[h0]⟩
  ·exact⟨_,_,rfl⟩
theorem V8(n:Nd)(l:List Nd)(v:Value)(vs:List Value):Yw (n::l) (v::vs)=(qD n v).toList++Yw l vs:=by simp[Yw]
theorem uM(l m:List Nd)(vs us:List Value)(h:vs.length=l.length):Yw (l++m) (vs++us)=Yw l vs++Yw m us:=by
 unfold Yw;rw[List.zip_append h.symm,List.flatMap_append]
theorem gc(n:Nd)(v:Value):Yw [n] [v]=(qD n v).toList:=by simp[Yw]
theorem zaL(l:List Nd):∀(vs:List Value) (i:Nat) (h:i<l.length) (h':i<vs.length) (j:Nat),j<5→(Yw l vs)[i*5+j]?=(qD l[i] vs[i])[j]?:=by
 induction l with
 |nil=>intro vs i h;simp at h
 |cons n l ih =>
  intro vs i h h' j hj;cases vs with
  |nil=>simp at h'
  |cons v vs =>
   rw[V8];have e5:(qD n v).toList.length=5:=rfl;cases i with
   |zero=>rw[List.getElem?_append_left (by rw[e5];omega)];simp
   |succ i =>
    simp only[List.length_cons]at h h';rw[List.getElem?_append_right (by rw[e5];omega),e5,show(i+1)*5+j-5=i*5+j by omega,ih vs i (by omega) (by omega) j hj];simp
def xI(w:World)(base:Nat)(l:List Nd)(v:Value):Prop:=∃vs,vs.length=l.length∧w.ownsRow base 24 5 v l.length (Yw l vs)∧∀i (h:i<l.length) (h':i<vs.length),yn w (λg=>base≤g∧v.ownBlock≠some g) l[i].l vs[i]
theorem xI.nil(w:World)(base:Nat):xI w base [] (.slice none 0 0):=⟨[],rfl,⟨rfl,.inl ⟨rfl,rfl⟩⟩,λi h=>by simp at h⟩
theorem xI.done{w:World}{base:Nat}{l:List Nd}{v:Value}(h:xI w base l v):yn w (λg=>base≤g) l v:=by
 obtain⟨vs,h1,h2,h3⟩:=h;refine .mk l vs v h1 ⟨h2.1,?_⟩ (λg e=>(qR h2 e).2) (λi h h'=>(h3 i h h').mono λg hg=>hg.1);rcases h2.2 with h0|⟨g,cap,cur,hv,hb,r⟩
 ·exact .inl h0
 ·exact .inr ⟨g,cap,cur,hv,Nat.zero_le _,r⟩
theorem xI.slice{w:World}{base:Nat}{l:List Nd}{v:Value}(h:xI w base l v):∃A C,v= .slice A l.length C:=h.done.slice
theorem xI.kp{w w':World}{base p:Nat}{l:List Nd}{v:Value}(h:xI w base l v)(hk:Kp p w w')(hp:p<base):xI w' base l v:=by
 obtain⟨vs,h1,h2,h3⟩:=h;exact⟨vs,h1,zI h2 (λg o e ho=>(hk.block g (qR h2 e).1 (λe'=>by have:=(qR h2 e).2;cases e';omega)).trans ho),λi h h'=>(h3 i h h').kp hk (λg hg=>by omega)⟩
theorem Tryz.infoNode:(Tryz.prog.info? 24).map (λi=>(i.zero,i.size,i.bytes))=some (some (.agg #[.string ⟨#[]⟩,.string ⟨#[]⟩,.int .i64 0,.int .i64 0,.slice none 0 0]),5,72):=by kernel_rfl
theorem Jm{P:Program}{w:World}{base:Nat}{t ty e:TypeId}{i:TypeInfo}{z:Value}{size:Nat}(ht:P.underlying t=some (.slice e))(hi:P.info? e=some i)(hz:i.zero=some z)(hsize:i.size=size)(hsz:0<size)
 {v:Value} {n:Nat} {xs:List Value} (hown:w.ownsRow base e size v n xs) {ad:Addr} {m c:Nat} {news:List Value} (hl:news.length=m*size) (hnews:∀j u,news[j]?=some u→w.cell? (ad.add j)=some u) (h1:∀u ∈ news,u.oneCell'=true)
 (h63:n+m≤maxLen) (hbytes:(n+m)*i.bytes≤140737488355328) (hm:0<m) {v':Value} {w':World} (hr:(Builtin.append_ #[t,t] ty #[v,.slice (some ad) m c]).run P w= .ok v' w'):v'.ownBlock=v.ownBlock∨v'.ownBlock=some w.heap.size:=by
 subst hsize;have hsmall:n+m≤9223372036854775807:=by simp only[maxLen]at h63;omega
 rcases hown.2 with⟨rfl,rfl⟩|⟨g,cap,cur,rfl,hbg,hg,hnc,hcm,hcs,htake⟩
 ·have hr2:=run_append_nil (P:=P) w t ty e i z ht hi hz ad m c news hl hnews (by omega) (by omega) (by have hb:=hbytes;simp only[Nat.zero_add]at hb;omega)
  rw[hr2]at hr;cases hr;exact .inr rfl
 ·by_cases hroom:n+m≤cap
  ·have hfit:n*i.size+news.length≤cur.size:=by rw[hl,hcs,←Nat.add_mul];exact Nat.mul_le_mul_right _ hroom
   have hr2:=run_append_room (P:=P) w t ty e i ht hi g n cap cur hg ad m c news hl hnews h1 hroom hfit;rw[hr2]at hr;cases hr;exact .inl rfl
  ·have holds:∀j u,xs[j]?=some u→w.cell? ((⟨g,0,none⟩:Addr).add j)=some u:=hown.cells (g:=g) rfl
   have hr2:=run_append_grow (P:=P) w t ty e i z ht hi hz ⟨g,0,none⟩ n cap xs hown.1 holds ad m c news hl hnews (by omega) (by omega) (growslice_fits (by omega) hbytes);rw[hr2]at hr;cases hr;exact .inr rfl
theorem xI.ne{w:World}{base:Nat}{l:List Nd}{v:Value}(h:xI w base l v){q t:Nat}{cs:Array Value}(hq:zm w q t cs)(ht:t≠24):v.ownBlock≠some q:=by
 obtain⟨vs,h1,h2,h3⟩:=h;rcases h2.2 with⟨rfl,_⟩|⟨g,cap,cur,rfl,_,hg,_⟩
 ·intro e;cases e
 ·intro e
  have e':g=q:=by cases e;rfl
  subst e';have hq':w.heap[g]?=some (.cells cs t (0,0)):=hq;rw[hg]at hq';cases hq';exact ht rfl
theorem zm.ne{w:World}{g q t u:Nat}{cs ds:Array Value}(h:zm w g t cs)(k:zm w q u ds)(ht:t≠u):g≠q:=by
 rintro rfl;have h':w.heap[g]?=some (.cells cs t (0,0)):=h;have k':w.heap[g]?=some (.cells ds u (0,0)):=k;rw[h']at k';cases k';exact ht rfl
theorem xI.lt{w:World}{base:Nat}{l:List Nd}{v:Value}(h:xI w base l v){g:Nat}(e:v.ownBlock=some g):g<w.heap.size:=by
 obtain⟨vs,h1,h2,h3⟩:=h;exact(qR h2 e).1
theorem yn.single{W:World}{P:Nat→Prop}{n:Nd}{v:Value}{G:Nat}(hG:zm W G 24 (qD n v))(hP:P G)(hn:yn W P n.l v):yn W P [n] (.slice (some ⟨G,0,none⟩) 1 1):=by
 refine .mk [n] [v] _ rfl ⟨by rw[gc];rfl,.inr ⟨G,1,_,rfl,Nat.zero_le _,hG,Nat.le_refl _,by decide,rfl,?_⟩⟩ (λg e=>by cases e;exact hP) (λi h h'=>?_)
 ·rw[gc];rfl
 ·have :i=0:=by simp at h;omega
  subst this;exact hn
structure zT (w:World) (rb:Nat) (A:Option Addr) (C:Nat) (ts:zL) (i en:Nat) (bad k:Int):Prop where
 has:zm w rb 49 #[.slice A ts.length C,.int .i64 (i:Nat),.int .i64 (en:Nat),.int .i64 bad,.int .i64 k]
 tok:∀j,j<ts.length→∃g off,A=some ⟨g,off,none⟩∧g<w.heap.size∧g≠rb∧zbm w g off ts
 le:i≤ts.length
 few:ts.length≤500
 end':en≤2000
theorem fC{ts:zL}{i en:Nat}(h:¬i<ts.length):place en (ts.drop i)=en:=by
 rw[List.drop_eq_nil_of_le (by omega)];rfl
theorem vw{ts:zL}{i en:Nat}(h:i<ts.length):place en (ts.drop i)=ts[i].2:=by
 rw[List.drop_eq_getElem_cons h];rfl
theorem vi{w:World}{rb:Nat}{A:Option Addr}{C:Nat}{ts:zL}{i en:Nat}{bad k:Int}(h:zT w rb A C ts i en bad k):Calls Tryz.prog 26 #[.pointer (some ⟨rb,0,none⟩)] w λe w'=>e= .returned (.int .i64 (place en (ts.drop i):Nat))∧∃q,w'=w.drewN q:=by
 have c0:=h.has.cell 0;have c1:=h.has.cell 1;have c2:=h.has.cell 2;simp only[qH,qG,qI]at c0 c1 c2;have hlt:=h.has.lt;have hf:=h.few;have hle:=h.le;by_cases hi:i<ts.length
 ·obtain⟨g,off,rfl,hg,hne,htk⟩:=h.tok i hi
  rw[vw hi];have t3:=htk i hi 3 (by decide);generalize ts[i]=t at t3 ⊢;generalize ts.length=L at *;have hii:(i:Int)<(L:Int):=by omega
  obtain⟨⟨tk,tss,tn⟩,ta⟩:=t;simp only[vG,List.getElem?_toArray,List.getElem?_cons_zero,List.getElem?_cons_succ]at t3;clear h htk;go_enter Tryz.func26,Tryz.ntmps26
  go_wp2
  go_quiet (fail)
  go_wp2
  go_quiet (fail)
  go_wp2
  go_ret
  exact⟨rfl,_,World.drewN_drewN _ _ _⟩
 ·rw[fC hi]
  generalize ts.length=L at *;have hii:¬(i:Int)<(L:Int):=by omega
  clear h;go_enter Tryz.func26,Tryz.ntmps26
  go_wp2
  go_quiet (fail)
  go_wp2
  go_ret
  exact⟨rfl,_,rfl⟩
def gN(ts:zL)(i:Nat)(s:List UInt8):Bool:=match ts[i]? with
 |none=>false
 |some t=>(t.1.kind==0||t.1.kind==3)&&t.1.s==s
theorem zc4{w:World}{rb:Nat}{A:Option Addr}{C:Nat}{ts:zL}{i en:Nat}{k:Int}(h:zT w rb A C ts i en 0 k)(s:List UInt8):Calls Tryz.prog 27 #[.pointer (some ⟨rb,0,none⟩),.string (bs s)] w λe w'=>e= .returned (.bool (gN ts i s))∧∃q,w'=w.drewN q:=by
 have c0:=h.has.cell 0;have c1:=h.has.cell 1;have c3:=h.has.cell 3;simp only[qH,qG,qI]at c0 c1 c3;have hlt:=h.has.lt;have hf:=h.few;have hle:=h.le;unfold gN;by_cases hi:i<ts.length
 ·obtain⟨g,off,rfl,hg,hne,htk⟩:=h.tok i hi
  rw[List.getElem?_eq_getElem hi];have t0:=htk i hi 0 (by decide);have t1:=htk i hi 1 (by decide);generalize ts[i]=t at t0 t1 ⊢;generalize ts.length=L at *;have hii:(i:Int)<(L:Int):=by omega
  obtain⟨⟨tk,tss,tn⟩,ta⟩:=t;simp only[vG,List.getElem?_toArray,List.getElem?_cons_zero,List.getElem?_cons_succ]at t0 t1 ⊢;have hx:=zp tss;have hy:=zp s;rw[Nat.add_zero]at t0;clear h htk;by_cases k0:tk=0
  ·have k1:((tk:Nat):Int)=0:=by omega
   cases hc:(tss==s)
   all_goals
    go_enter Tryz.func27,Tryz.ntmps27
    go_wp2
    go_quiet (fail)
    go_wp2
    go_ret
    exact⟨by simp[k0],_,rfl⟩
  ·have k1:¬((tk:Nat):Int)=0:=by omega
   by_cases k3:tk=3
   ·have k4:((tk:Nat):Int)=3:=by omega
    cases hc:(tss==s)
    all_goals
     go_enter Tryz.func27,Tryz.ntmps27
     go_wp2
     go_quiet (fail)
     go_wp2
     go_ret
     exact⟨by simp[k3],_,rfl⟩
   ·have k4:¬((tk:Nat):Int)=3:=by omega
    go_enter Tryz.func27,Tryz.ntmps27
    go_wp2
    go_quiet (fail)
    go_wp2
    go_ret
    exact⟨by simp[k0,k3],_,rfl⟩
 ·rw[List.getElem?_eq_none (by omega)]
  generalize ts.length=L at *;have hii:¬(i:Int)<(L:Int):=by omega
  clear h;go_enter Tryz.func27,Tryz.ntmps27
  go_wp2
  go_quiet (fail)
  go_wp2
  go_ret
  exact⟨rfl,_,rfl⟩
end
end Go.Proofs.YteaddcdpgcgggaaGreatDoor
