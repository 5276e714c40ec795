import Derived.Test.YtebcfkigbbolaaaGreatDoorJoint01
import Derived.RegionTactic
import Derived.Test.YtebcfkigbbolaaaGreatDoorJoint00
namespace Go.Proofs.YtebcfkigbbolaaaGreatDoor
set_option linter.unusedVariables false
set_option maxRecDepth 100000
set_option maxHeartbeats 40000000
section
open Go.ChangeShapes Go.WideShapes Go.ChangeAt Go.RowKit
def ZH(w w':World)(P j:Nat):Prop:=∃w1,qW w w1 P j∧Below w1.heap.size w1 w'
theorem qW.after{w w':World}{P j:Nat}(h:qW w w' P j):ZH w w' P j:=⟨w',h,Below.refl _ _⟩
theorem ZH.at_{w w':World}{P j:Nat}(h:ZH w w' P j):ze w' P 3 #[.int .i64 (j:Nat)]:=by
 obtain⟨w1,hm,hb⟩:=h;exact hm.has.below hb hm.has.lt
theorem ZH.other{w w':World}{P j g t:Nat}{cs:Array Value}(h:ZH w w' P j)(hg:ze w g t cs)(hne:g≠P):ze w' g t cs:=by
 obtain⟨w1,hm,hb⟩:=h;have:=hm.other hg hne;exact this.below hb this.lt
theorem ZH.size{w w':World}{P j:Nat}(h:ZH w w' P j):w.heap.size≤w'.heap.size:=by
 obtain⟨w1,hm,hb⟩:=h;rw[←hm.size];exact hb.size
theorem ZH.below{w w':World}{P j B:Nat}(h:ZH w w' P j)(hB:B≤P)(hw:B≤w.heap.size):Below B w w':=by
 obtain⟨w1,hm,hb⟩:=h;exact(hm.below hB hw).trans (hb.mono (by rw[hm.size];exact hw))
abbrev clo(Q S:Nat):Value:= .func (.func 125) #[] #[pt Q,pt S]
def kD(w:World)(P j:Nat)(v:Value)(er:Int)(e:Ending)(w':World):Prop:=e= .returned (.tuple #[v,.int .i64 er])∧ZH w w' P j
theorem Jc(l:List UInt8)(p:UInt8→Bool)(j:Nat):(bs ((l.drop j).take (zE p (l.drop j)))).size=zE p (l.drop j):=by
 rw[zi,List.length_take,Nat.min_eq_left (j5 _ _)]
theorem du{w0 w:World}{P Q S j:Nat}{l:List UInt8}(hC:ku w0 w P Q S j l)(hl:l.length≤2000)(h:¬16<zE zN (l.drop j)):
 Calls Tryz.prog 101 #[clo Q S] w (kD w P (j+zE zN (l.drop j)) (.string (bs ((l.drop j).take (zE zN (l.drop j))))) 0):=by
 have ht:=Ym l hC.at_ hC.q hC.s hC.qp hC.sp hC.le hl;unfold xZ at ht;have hz:=Jc l zN j;generalize (l.drop j).take (zE zN (l.drop j))=X at hz ht ⊢;have h1:¬(16:Int)<((bs X).size:Int):=by omega
 clear hz;go_enter Tryz.func101,Tryz.ntmps101
 go_wp2_with (go_at_call 125;refine ht.mono ?_;rintro e w1 ⟨rfl,hm⟩)
 go_ret2
 exact⟨rfl,hm.after⟩
theorem gV{w0 w:World}{P Q S j:Nat}{l:List UInt8}(hC:ku w0 w P Q S j l)(hl:l.length≤2000)(h:16<zE zN (l.drop j)):
 Calls Tryz.prog 101 #[clo Q S] w (kD w P (j+zE zN (l.drop j)) (.string (bs [])) 102):=by
 have ht:=Ym l hC.at_ hC.q hC.s hC.qp hC.sp hC.le hl;unfold xZ at ht;have hz:=Jc l zN j;generalize (l.drop j).take (zE zN (l.drop j))=X at hz ht ⊢;have h1:(16:Int)<((bs X).size:Int):=by omega
 clear hz;go_enter Tryz.func101,Tryz.ntmps101
 go_wp2_with (go_at_call 125;refine ht.mono ?_;rintro e w1 ⟨rfl,hm⟩)
 go_ret2
 exact⟨rfl,hm.after⟩
theorem Ji{w0 w:World}{P Q S j:Nat}{l:List UInt8}(hC:ku w0 w P Q S j l)(hl:l.length≤2000)(h:¬9<zE zm (l.drop j))(h0:zE zm (l.drop j)≠0):
 Calls Tryz.prog 103 #[clo Q S] w (kD w P (j+zE zm (l.drop j)) (.int .i64 (val ((l.drop j).take (zE zm (l.drop j))):Nat)) 0):=by
 have ht:=Jl l hC.at_ hC.q hC.s hC.qp hC.sp hC.le hl;unfold xZ at ht;have hz:=Jc l zm j;have hfig:∀c ∈ (l.drop j).take (zE zm (l.drop j)),zm c=true:=QC;generalize (l.drop j).take (zE zm (l.drop j))=X at hz ht hfig ⊢;have h1:¬(9:Int)<((bs X).size:Int):=by omega
 have h2:X≠ []:=by rintro rfl;rw[zi]at hz;exact h0 hz.symm
 have h3:X.length≤9:=by rw[zi]at hz;omega
 have ha:=λW=>zaf X W h2 h3 hfig
 clear hz hfig h2 h3;go_enter Tryz.func103,Tryz.ntmps103
 go_wp2_with (first
  |(go_at_call 125;refine ht.mono ?_;rintro e w1 ⟨rfl,hm⟩)
  |(go_at_call 128;refine(ha _).mono ?_;rintro e w2 ⟨rfl,hb⟩))
 go_ret2
 exact⟨rfl,_,hm,hb⟩
theorem XX{w0 w:World}{P Q S j:Nat}{l:List UInt8}(hC:ku w0 w P Q S j l)(hl:l.length≤2000)(h:9<zE zm (l.drop j)):
 Calls Tryz.prog 103 #[clo Q S] w (kD w P (j+zE zm (l.drop j)) (.int .i64 0) 102):=by
 have ht:=Jl l hC.at_ hC.q hC.s hC.qp hC.sp hC.le hl;unfold xZ at ht;have hz:=Jc l zm j;generalize (l.drop j).take (zE zm (l.drop j))=X at hz ht ⊢;have h1:(9:Int)<((bs X).size:Int):=by omega
 clear hz;go_enter Tryz.func103,Tryz.ntmps103
 go_wp2_with (go_at_call 125;refine ht.mono ?_;rintro e w1 ⟨rfl,hm⟩)
 go_ret2
 exact⟨rfl,hm.after⟩
theorem FD{w0 w:World}{P Q S j:Nat}{l:List UInt8}(hC:ku w0 w P Q S j l)(hl:l.length≤2000)(h:zE zw (l.drop j)=0):
 Calls Tryz.prog 104 #[clo Q S] w (kD w P (j+zE zw (l.drop j)) (.string (bs [])) 101):=by
 have ht:=J8 l hC.at_ hC.q hC.s hC.qp hC.sp hC.le hl;unfold xZ at ht;have hz:(l.drop j).take (zE zw (l.drop j))= []:=by rw[h];rfl
 rw[hz]at ht;have h1:(bs []).toList= []:=zx [];clear hz;generalize zE zw (l.drop j)=n at ht h ⊢;clear h;go_enter Tryz.func104,Tryz.ntmps104
 go_wp2_with (go_at_call 125;refine ht.mono ?_;rintro e w1 ⟨rfl,hm⟩)
 go_ret2
 exact⟨rfl,hm.after⟩
theorem Fm{w0 w:World}{P Q S j:Nat}{l:List UInt8}(hC:ku w0 w P Q S j l)(hl:l.length≤2000)(h:128<zE zw (l.drop j)):
 Calls Tryz.prog 104 #[clo Q S] w (kD w P (j+zE zw (l.drop j)) (.string (bs [])) 102):=by
 have ht:=J8 l hC.at_ hC.q hC.s hC.qp hC.sp hC.le hl;unfold xZ at ht;have hz:=Jc l zw j;generalize (l.drop j).take (zE zw (l.drop j))=X at hz ht ⊢;have h1:(128:Int)<((bs X).size:Int):=by omega
 have h2:((bs X).toList== [])=false:=by rw[zx];cases X with
  |nil=>rw[zi]at hz;simp at hz;omega
  |cons a b=>rfl
 clear hz;go_enter Tryz.func104,Tryz.ntmps104
 go_wp2_with (go_at_call 125;refine ht.mono ?_;rintro e w1 ⟨rfl,hm⟩)
 go_ret2
 exact⟨rfl,hm.after⟩
theorem uk{w0 w:World}{P Q S j:Nat}{l:List UInt8}(hC:ku w0 w P Q S j l)(hl:l.length≤2000)(h0:zE zw (l.drop j)≠0)(h:¬128<zE zw (l.drop j)):
 Calls Tryz.prog 104 #[clo Q S] w (kD w P (j+zE zw (l.drop j)) (.string (bs ((l.drop j).take (zE zw (l.drop j))))) 0):=by
 have ht:=J8 l hC.at_ hC.q hC.s hC.qp hC.sp hC.le hl;unfold xZ at ht;have hz:=Jc l zw j;generalize (l.drop j).take (zE zw (l.drop j))=X at hz ht ⊢;have h1:¬(128:Int)<((bs X).size:Int):=by omega
 have h2:((bs X).toList== [])=false:=by rw[zx];cases X with
  |nil=>rw[zi]at hz;simp at hz;omega
  |cons a b=>rfl
 clear hz;go_enter Tryz.func104,Tryz.ntmps104
 go_wp2_with (go_at_call 125;refine ht.mono ?_;rintro e w1 ⟨rfl,hm⟩)
 go_ret2
 exact⟨rfl,hm.after⟩
def qt(t:Tk)(p:Nat):Array Value:=#[.int .i64 (t.kind:Nat),.string (bs t.s),.int .i64 (t.n:Nat),.int .i64 (p:Nat)]
def j4(w:World)(i:Nat)(t:Tk)(E:Nat)(er:Int)(e:Ending)(w':World):Prop:=e= .returned (.tuple #[.agg (qt t i),.int .i64 (E:Nat),.int .i64 er])∧Below w.heap.size w w'
abbrev fI(w:World)(l:List UInt8)(i:Nat)(z k:Int):World:=
 ((((w.alloc (.cells #[.int .i64 0,.string ⟨#[]⟩,.int .i64 0,.int .i64 0] 100)).alloc (.cells #[.int .i64 k,.string ⟨#[]⟩,.int .i64 0,.int .i64 (i:Nat)] 100)).alloc (.cells #[.int .i64 z] 3)).alloc (.cells #[.string (bs l)] 9)).alloc (.cells #[pt (w.heap.size+1+1)] 146)
theorem vz(w:World)(l:List UInt8)(i j:Nat)(z k:Int)(hz:z=(j:Nat))(hj:j≤l.length):ku w (fI w l i z k) (w.heap.size+1+1) (w.heap.size+1+1+1+1) (w.heap.size+1+1+1) j l:=by
 subst hz;exact⟨((ze.new_at (by simp)).alloc _).alloc _,ze.new_at (by simp),(ze.new_at (by simp)).alloc _,by omega,by omega,hj,(((((Below.refl _ _).alloc (Nat.le_refl _) _).alloc (by simp) _).alloc (by simp;omega) _).alloc (by simp;omega) _).alloc (by simp;omega) _,by omega⟩
theorem vv(w:World)(l:List UInt8)(i:Nat)(z k:Int):ze (fI w l i z k) (w.heap.size+1) 100 #[.int .i64 k,.string ⟨#[]⟩,.int .i64 0,.int .i64 (i:Nat)]:=(((ze.new_at (by simp)).alloc _).alloc _).alloc _
theorem vy(w:World)(l:List UInt8)(i:Nat)(z k:Int):ze (fI w l i z k) w.heap.size 100 #[.int .i64 0,.string ⟨#[]⟩,.int .i64 0,.int .i64 0]:=((((ze.new_at (by simp)).alloc _).alloc _).alloc _).alloc _
theorem Vu:bs []=⟨#[]⟩:=rfl
theorem below_drew'{B:Nat}{a w:World}(h:Below B a w):Below B a w.drew:=⟨h.os,h.tape,h.output,h.size,h.block⟩
theorem xd{w:World}{o1 o2 o3 o4:Obj}(o5:Obj):Below w.heap.size w (((((w.alloc o1).alloc o2).alloc o3).alloc o4).alloc o5).drew:=
 below_drew' ((((((Below.refl _ _).alloc (Nat.le_refl _) _).alloc (by simp) _).alloc (by simp;omega) _).alloc (by simp;omega) _).alloc (by simp;omega) _)
theorem jW{w w1:World}{l:List UInt8}{i J:Nat}{z k:Int}(hA:ZH (fI w l i z k) w1 (w.heap.size+1+1) J){a:Nat}{u v0 v1 v2 v3:Value}:
 Below w.heap.size w ((((((w1.setCell ⟨w.heap.size+1,a,none⟩ u).setCell ⟨w.heap.size,0,none⟩ v0).setCell ⟨w.heap.size,1,none⟩ v1).setCell ⟨w.heap.size,2,none⟩ v2).setCell ⟨w.heap.size,3,none⟩ v3).drew):=by
 have h1:Below w.heap.size w (fI w l i z k):=(((((Below.refl _ _).alloc (Nat.le_refl _) _).alloc (by simp) _).alloc (by simp;omega) _).alloc (by simp;omega) _).alloc (by simp;omega) _;have h2:=h1.trans (hA.below (B:=w.heap.size) (by omega) (by simp;omega));exact below_drew' (((((h2.setCell (p:=⟨w.heap.size+1,a,none⟩) (by simp) u).setCell (p:=⟨w.heap.size,0,none⟩) (by simp) v0).setCell (p:=⟨w.heap.size,1,none⟩) (by simp) v1).setCell (p:=⟨w.heap.size,2,none⟩) (by simp) v2).setCell (p:=⟨w.heap.size,3,none⟩) (by simp) v3)
theorem kZ{w:World}{l:List UInt8}{i:Nat}(hi:i<l.length)(hl:l.length≤2000)(k1:zP l[i]=true)(h:¬16<zE zN (l.drop i)):
 Calls Tryz.prog 66 #[.string (bs l),.int .i64 (i:Nat)] w (j4 w i ⟨0,(l.drop i).take (zE zN (l.drop i)),0⟩ (i+zE zN (l.drop i)) 0):=by
 have hsz:=zi l;have h1:i<(bs l).size:=by omega
 have h2:((i:Nat):Int)<((bs l).size:Int):=by omega
 have hi2:i≤2000:=by omega
 have hc1:zP ((bs l)[i]'h1)=true:=by rw[zH];exact k1
 have hs1:=qr ((bs l)[i]'h1);rw[hc1]at hs1;clear hc1 k1;have hw:=du (vz w l i i (i:Nat) 0 rfl (by omega)) hl h;have hH:=vv w l i (i:Nat) 0;have hR:=vy w l i (i:Nat) 0;have HS:Hid ((bs l).size=l.length):=hsz;clear hsz;go_enter Tryz.func66,Tryz.ntmps66
 go_wp2_with (first
  |(go_at_call 96;refine(jb _ _ _).mono ?_;rintro e w' ⟨rfl,rfl⟩)
  |(go_at_call 100;refine(hs1 _).mono ?_;rintro e w' ⟨rfl,rfl⟩)
  |(go_at_call 101
    refine hw.mono ?_;rintro e w1 ⟨rfl,hA⟩;have hH1:=hA.other hH (by omega);have hR1:=hA.other hR (by omega);have c0:=hH1.cell 0;have c1:=hH1.cell 1;have c2:=hH1.cell 2;have c3:=hH1.cell 3;have f1:=hH1.free 1;have f2:=hH1.free 2;have hP:=hA.at_.cell 0;have r0:w1.cell? ⟨w.heap.size,0,none⟩=some (.int .i64 0):=hR1.cell 0;have r1:w1.cell? ⟨w.heap.size,1,none⟩=some (.string ⟨#[]⟩):=hR1.cell 1;have r2:w1.cell? ⟨w.heap.size,2,none⟩=some (.int .i64 0):=hR1.cell 2;have r3:w1.cell? ⟨w.heap.size,3,none⟩=some (.int .i64 0):=hR1.cell 3;have g0:=hR1.free 0;have g1:=hR1.free 1;have g2:=hR1.free 2
    have g3:=hR1.free 3))
 go_region
 all_goals
  go_wp2
  exact bodyPost_ret (v:= .tuple #[.agg (qt ⟨0,(l.drop i).take (zE zN (l.drop i)),0⟩ i),.int .i64 (((i+zE zN (l.drop i)):Nat):Int),.int .i64 0]) (by simp[results,Tryz.results66,go_sem,qt,r0,r1,r2,r3]) rfl ⟨rfl,jW hA⟩
theorem KW{w:World}{l:List UInt8}{i:Nat}(hi:i<l.length)(hl:l.length≤2000)(k1:zP l[i]=true)(h:16<zE zN (l.drop i)):
 Calls Tryz.prog 66 #[.string (bs l),.int .i64 (i:Nat)] w (j4 w i ⟨0,[],0⟩ (i+zE zN (l.drop i)) 102):=by
 have hsz:=zi l;have h1:i<(bs l).size:=by omega
 have h2:((i:Nat):Int)<((bs l).size:Int):=by omega
 have hi2:i≤2000:=by omega
 have hc1:zP ((bs l)[i]'h1)=true:=by rw[zH];exact k1
 have hs1:=qr ((bs l)[i]'h1);rw[hc1]at hs1;clear hc1 k1;have hw:=gV (vz w l i i (i:Nat) 0 rfl (by omega)) hl h;have hH:=vv w l i (i:Nat) 0;have hR:=vy w l i (i:Nat) 0;have HS:Hid ((bs l).size=l.length):=hsz;clear hsz;go_enter Tryz.func66,Tryz.ntmps66
 go_wp2_with (first
  |(go_at_call 96;refine(jb _ _ _).mono ?_;rintro e w' ⟨rfl,rfl⟩)
  |(go_at_call 100;refine(hs1 _).mono ?_;rintro e w' ⟨rfl,rfl⟩)
  |(go_at_call 101
    refine hw.mono ?_;rintro e w1 ⟨rfl,hA⟩;have hH1:=hA.other hH (by omega);have hR1:=hA.other hR (by omega);have c0:=hH1.cell 0;have c1:=hH1.cell 1;have c2:=hH1.cell 2;have c3:=hH1.cell 3;have f1:=hH1.free 1;have f2:=hH1.free 2;have hP:=hA.at_.cell 0;have r0:w1.cell? ⟨w.heap.size,0,none⟩=some (.int .i64 0):=hR1.cell 0;have r1:w1.cell? ⟨w.heap.size,1,none⟩=some (.string ⟨#[]⟩):=hR1.cell 1;have r2:w1.cell? ⟨w.heap.size,2,none⟩=some (.int .i64 0):=hR1.cell 2;have r3:w1.cell? ⟨w.heap.size,3,none⟩=some (.int .i64 0):=hR1.cell 3;have g0:=hR1.free 0;have g1:=hR1.free 1;have g2:=hR1.free 2
    have g3:=hR1.free 3))
 go_region
 all_goals
  go_wp2
  exact bodyPost_ret (v:= .tuple #[.agg (qt ⟨0,[],0⟩ i),.int .i64 (((i+zE zN (l.drop i)):Nat):Int),.int .i64 102]) (by simp[results,Tryz.results66,go_sem,qt,r0,r1,r2,r3]) rfl ⟨rfl,jW hA⟩
theorem gE{w:World}{l:List UInt8}{i:Nat}(hi:i<l.length)(hl:l.length≤2000)(k1:zP l[i]=false)(k2:zm l[i]=true)(h:¬9<zE zm (l.drop i))(h0:zE zm (l.drop i)≠0)(hE:i+zE zm (l.drop i)<l.length)(k3:vn (l[i+zE zm (l.drop i)])=false):
 Calls Tryz.prog 66 #[.string (bs l),.int .i64 (i:Nat)] w (j4 w i ⟨1,[],val ((l.drop i).take (zE zm (l.drop i)))⟩ (i+zE zm (l.drop i)) 0):=by
 have hsz:=zi l;have h1:i<(bs l).size:=by omega
 have h2:((i:Nat):Int)<((bs l).size:Int):=by omega
 have hi2:i≤2000:=by omega
 have hc1:zP ((bs l)[i]'h1)=false:=by rw[zH];exact k1
 have hs1:=qr ((bs l)[i]'h1);rw[hc1]at hs1;clear hc1 k1;have hc2:zm ((bs l)[i]'h1)=true:=by rw[zH];exact k2
 have hs2:=qh ((bs l)[i]'h1);rw[hc2]at hs2;clear hc2 k2;have hw:=Ji (vz w l i i (i:Nat) 1 rfl (by omega)) hl h h0;have hH:=vv w l i (i:Nat) 1;have hR:=vy w l i (i:Nat) 1
 obtain⟨J,hJ⟩:∃J,J=(i+zE zm (l.drop i)):=⟨_,rfl⟩
 rw[←hJ]at hw hE ⊢;have HJ:Hid (J=(i+zE zm (l.drop i))):=hJ;clear hJ;have hJ2:J≤2000:=by omega
 have b1:J<(bs l).size:=by rw[hsz];exact hE
 have b2:((J:Nat):Int)<((bs l).size:Int):=by omega
 have k3':vn ((bs l)[J]'b1)=false:=by rw[zH];have:=HJ.out;subst this;exact k3
 have hs3:=yt ((bs l)[J]'b1);rw[k3']at hs3;clear k3' k3 hE;have HS:Hid ((bs l).size=l.length):=hsz;clear hsz;go_enter Tryz.func66,Tryz.ntmps66
 go_wp2_with (first
  |(go_at_call 96;refine(jb _ _ _).mono ?_;rintro e w' ⟨rfl,rfl⟩)
  |(go_at_call 100;refine(hs1 _).mono ?_;rintro e w' ⟨rfl,rfl⟩)
  |(go_at_call 102;refine(hs2 _).mono ?_;rintro e w' ⟨rfl,rfl⟩)
  |(go_at_call 105;refine(hs3 _).mono ?_;rintro e w' ⟨rfl,rfl⟩)
  |(go_at_call 103
    refine hw.mono ?_;rintro e w1 ⟨rfl,hA⟩;have hH1:=hA.other hH (by omega);have hR1:=hA.other hR (by omega);have c0:=hH1.cell 0;have c1:=hH1.cell 1;have c2:=hH1.cell 2;have c3:=hH1.cell 3;have f1:=hH1.free 1;have f2:=hH1.free 2;have hP:=hA.at_.cell 0;have r0:w1.cell? ⟨w.heap.size,0,none⟩=some (.int .i64 0):=hR1.cell 0;have r1:w1.cell? ⟨w.heap.size,1,none⟩=some (.string ⟨#[]⟩):=hR1.cell 1;have r2:w1.cell? ⟨w.heap.size,2,none⟩=some (.int .i64 0):=hR1.cell 2;have r3:w1.cell? ⟨w.heap.size,3,none⟩=some (.int .i64 0):=hR1.cell 3;have g0:=hR1.free 0;have g1:=hR1.free 1;have g2:=hR1.free 2
    have g3:=hR1.free 3))
 go_region
 all_goals
  go_wp2
  exact bodyPost_ret (v:= .tuple #[.agg (qt ⟨1,[],val ((l.drop i).take (zE zm (l.drop i)))⟩ i),.int .i64 ((J:Nat):Int),.int .i64 0]) (by simp[results,Tryz.results66,go_sem,qt,r0,r1,r2,r3,Vu]) rfl ⟨rfl,jW hA⟩
theorem U3{w:World}{l:List UInt8}{i:Nat}(hi:i<l.length)(hl:l.length≤2000)(k1:zP l[i]=false)(k2:zm l[i]=true)(h:¬9<zE zm (l.drop i))(h0:zE zm (l.drop i)≠0)(hE:i+zE zm (l.drop i)=l.length):
 Calls Tryz.prog 66 #[.string (bs l),.int .i64 (i:Nat)] w (j4 w i ⟨1,[],val ((l.drop i).take (zE zm (l.drop i)))⟩ (i+zE zm (l.drop i)) 0):=by
 have hsz:=zi l;have h1:i<(bs l).size:=by omega
 have h2:((i:Nat):Int)<((bs l).size:Int):=by omega
 have hi2:i≤2000:=by omega
 have hc1:zP ((bs l)[i]'h1)=false:=by rw[zH];exact k1
 have hs1:=qr ((bs l)[i]'h1);rw[hc1]at hs1;clear hc1 k1;have hc2:zm ((bs l)[i]'h1)=true:=by rw[zH];exact k2
 have hs2:=qh ((bs l)[i]'h1);rw[hc2]at hs2;clear hc2 k2;have hw:=Ji (vz w l i i (i:Nat) 1 rfl (by omega)) hl h h0;have hH:=vv w l i (i:Nat) 1;have hR:=vy w l i (i:Nat) 1
 obtain⟨J,hJ⟩:∃J,J=(i+zE zm (l.drop i)):=⟨_,rfl⟩
 rw[←hJ]at hw hE ⊢;have HJ:Hid (J=(i+zE zm (l.drop i))):=hJ;clear hJ;have hJ2:J≤2000:=by omega
 have b2:¬((J:Nat):Int)<((bs l).size:Int):=by omega
 clear hE;have HS:Hid ((bs l).size=l.length):=hsz;clear hsz;go_enter Tryz.func66,Tryz.ntmps66
 go_wp2_with (first
  |(go_at_call 96;refine(jb _ _ _).mono ?_;rintro e w' ⟨rfl,rfl⟩)
  |(go_at_call 100;refine(hs1 _).mono ?_;rintro e w' ⟨rfl,rfl⟩)
  |(go_at_call 102;refine(hs2 _).mono ?_;rintro e w' ⟨rfl,rfl⟩)
  |(go_at_call 105;refine(hs3 _).mono ?_;rintro e w' ⟨rfl,rfl⟩)
  |(go_at_call 103
    refine hw.mono ?_;rintro e w1 ⟨rfl,hA⟩;have hH1:=hA.other hH (by omega);have hR1:=hA.other hR (by omega);have c0:=hH1.cell 0;have c1:=hH1.cell 1;have c2:=hH1.cell 2;have c3:=hH1.cell 3;have f1:=hH1.free 1;have f2:=hH1.free 2;have hP:=hA.at_.cell 0;have r0:w1.cell? ⟨w.heap.size,0,none⟩=some (.int .i64 0):=hR1.cell 0;have r1:w1.cell? ⟨w.heap.size,1,none⟩=some (.string ⟨#[]⟩):=hR1.cell 1;have r2:w1.cell? ⟨w.heap.size,2,none⟩=some (.int .i64 0):=hR1.cell 2;have r3:w1.cell? ⟨w.heap.size,3,none⟩=some (.int .i64 0):=hR1.cell 3;have g0:=hR1.free 0;have g1:=hR1.free 1;have g2:=hR1.free 2
    have g3:=hR1.free 3))
 go_region
 all_goals
  go_wp2
  exact bodyPost_ret (v:= .tuple #[.agg (qt ⟨1,[],val ((l.drop i).take (zE zm (l.drop i)))⟩ i),.int .i64 ((J:Nat):Int),.int .i64 0]) (by simp[results,Tryz.results66,go_sem,qt,r0,r1,r2,r3,Vu]) rfl ⟨rfl,jW hA⟩
theorem kQ{w:World}{l:List UInt8}{i:Nat}(hi:i<l.length)(hl:l.length≤2000)(k1:zP l[i]=false)(k2:zm l[i]=true)(h:¬9<zE zm (l.drop i))(h0:zE zm (l.drop i)≠0)(hE:i+zE zm (l.drop i)<l.length)(k3:vn (l[i+zE zm (l.drop i)])=true):
 Calls Tryz.prog 66 #[.string (bs l),.int .i64 (i:Nat)] w (j4 w i ⟨1,[],val ((l.drop i).take (zE zm (l.drop i)))⟩ (i+zE zm (l.drop i)) 101):=by
 have hsz:=zi l;have h1:i<(bs l).size:=by omega
 have h2:((i:Nat):Int)<((bs l).size:Int):=by omega
 have hi2:i≤2000:=by omega
 have hc1:zP ((bs l)[i]'h1)=false:=by rw[zH];exact k1
 have hs1:=qr ((bs l)[i]'h1);rw[hc1]at hs1;clear hc1 k1;have hc2:zm ((bs l)[i]'h1)=true:=by rw[zH];exact k2
 have hs2:=qh ((bs l)[i]'h1);rw[hc2]at hs2;clear hc2 k2;have hw:=Ji (vz w l i i (i:Nat) 1 rfl (by omega)) hl h h0;have hH:=vv w l i (i:Nat) 1;have hR:=vy w l i (i:Nat) 1
 obtain⟨J,hJ⟩:∃J,J=(i+zE zm (l.drop i)):=⟨_,rfl⟩
 rw[←hJ]at hw hE ⊢;have HJ:Hid (J=(i+zE zm (l.drop i))):=hJ;clear hJ;have hJ2:J≤2000:=by omega
 have b1:J<(bs l).size:=by rw[hsz];exact hE
 have b2:((J:Nat):Int)<((bs l).size:Int):=by omega
 have k3':vn ((bs l)[J]'b1)=true:=by rw[zH];have:=HJ.out;subst this;exact k3
 have hs3:=yt ((bs l)[J]'b1);rw[k3']at hs3;clear k3' k3 hE;have HS:Hid ((bs l).size=l.length):=hsz;clear hsz;go_enter Tryz.func66,Tryz.ntmps66
 go_wp2_with (first
  |(go_at_call 96;refine(jb _ _ _).mono ?_;rintro e w' ⟨rfl,rfl⟩)
  |(go_at_call 100;refine(hs1 _).mono ?_;rintro e w' ⟨rfl,rfl⟩)
  |(go_at_call 102;refine(hs2 _).mono ?_;rintro e w' ⟨rfl,rfl⟩)
  |(go_at_call 105;refine(hs3 _).mono ?_;rintro e w' ⟨rfl,rfl⟩)
  |(go_at_call 103
    refine hw.mono ?_;rintro e w1 ⟨rfl,hA⟩;have hH1:=hA.other hH (by omega);have hR1:=hA.other hR (by omega);have c0:=hH1.cell 0;have c1:=hH1.cell 1;have c2:=hH1.cell 2;have c3:=hH1.cell 3;have f1:=hH1.free 1;have f2:=hH1.free 2;have hP:=hA.at_.cell 0;have r0:w1.cell? ⟨w.heap.size,0,none⟩=some (.int .i64 0):=hR1.cell 0;have r1:w1.cell? ⟨w.heap.size,1,none⟩=some (.string ⟨#[]⟩):=hR1.cell 1;have r2:w1.cell? ⟨w.heap.size,2,none⟩=some (.int .i64 0):=hR1.cell 2;have r3:w1.cell? ⟨w.heap.size,3,none⟩=some (.int .i64 0):=hR1.cell 3;have g0:=hR1.free 0;have g1:=hR1.free 1;have g2:=hR1.free 2
    have g3:=hR1.free 3))
 go_region
 all_goals
  go_wp2
  exact bodyPost_ret (v:= .tuple #[.agg (qt ⟨1,[],val ((l.drop i).take (zE zm (l.drop i)))⟩ i),.int .i64 ((J:Nat):Int),.int .i64 101]) (by simp[results,Tryz.results66,go_sem,qt,r0,r1,r2,r3,Vu]) rfl ⟨rfl,jW hA⟩
theorem UN{w:World}{l:List UInt8}{i:Nat}(hi:i<l.length)(hl:l.length≤2000)(k1:zP l[i]=false)(k2:zm l[i]=true)(h:9<zE zm (l.drop i)):
 Calls Tryz.prog 66 #[.string (bs l),.int .i64 (i:Nat)] w (j4 w i ⟨1,[],0⟩ (i+zE zm (l.drop i)) 102):=by
 have hsz:=zi l;have h1:i<(bs l).size:=by omega
 have h2:((i:Nat):Int)<((bs l).size:Int):=by omega
 have hi2:i≤2000:=by omega
 have hc1:zP ((bs l)[i]'h1)=false:=by rw[zH];exact k1
 have hs1:=qr ((bs l)[i]'h1);rw[hc1]at hs1;clear hc1 k1;have hc2:zm ((bs l)[i]'h1)=true:=by rw[zH];exact k2
 have hs2:=qh ((bs l)[i]'h1);rw[hc2]at hs2;clear hc2 k2;have hw:=XX (vz w l i i (i:Nat) 1 rfl (by omega)) hl h;have hH:=vv w l i (i:Nat) 1;have hR:=vy w l i (i:Nat) 1;have HS:Hid ((bs l).size=l.length):=hsz;clear hsz;go_enter Tryz.func66,Tryz.ntmps66
 go_wp2_with (first
  |(go_at_call 96;refine(jb _ _ _).mono ?_;rintro e w' ⟨rfl,rfl⟩)
  |(go_at_call 100;refine(hs1 _).mono ?_;rintro e w' ⟨rfl,rfl⟩)
  |(go_at_call 102;refine(hs2 _).mono ?_;rintro e w' ⟨rfl,rfl⟩)
  |(go_at_call 103
    refine hw.mono ?_;rintro e w1 ⟨rfl,hA⟩;have hH1:=hA.other hH (by omega);have hR1:=hA.other hR (by omega);have c0:=hH1.cell 0;have c1:=hH1.cell 1;have c2:=hH1.cell 2;have c3:=hH1.cell 3;have f1:=hH1.free 1;have f2:=hH1.free 2;have hP:=hA.at_.cell 0;have r0:w1.cell? ⟨w.heap.size,0,none⟩=some (.int .i64 0):=hR1.cell 0;have r1:w1.cell? ⟨w.heap.size,1,none⟩=some (.string ⟨#[]⟩):=hR1.cell 1;have r2:w1.cell? ⟨w.heap.size,2,none⟩=some (.int .i64 0):=hR1.cell 2;have r3:w1.cell? ⟨w.heap.size,3,none⟩=some (.int .i64 0):=hR1.cell 3;have g0:=hR1.free 0;have g1:=hR1.free 1;have g2:=hR1.free 2
    have g3:=hR1.free 3))
 go_region
 all_goals
  go_wp2
  exact bodyPost_ret (v:= .tuple #[.agg (qt ⟨1,[],0⟩ i),.int .i64 (((i+zE zm (l.drop i)):Nat):Int),.int .i64 102]) (by simp[results,Tryz.results66,go_sem,qt,r0,r1,r2,r3,Vu]) rfl ⟨rfl,jW hA⟩
theorem gS{w:World}{l:List UInt8}{i:Nat}(hi:i<l.length)(hl:l.length≤2000)(k4:l[i]=36)(h0:zE zw (l.drop (i+1))≠0)(h:¬128<zE zw (l.drop (i+1)))(hE:i+1+zE zw (l.drop (i+1))<l.length)(k3:vn (l[i+1+zE zw (l.drop (i+1))])=false):
 Calls Tryz.prog 66 #[.string (bs l),.int .i64 (i:Nat)] w (j4 w i ⟨2,(l.drop (i+1)).take (zE zw (l.drop (i+1))),0⟩ (i+1+zE zw (l.drop (i+1))) 0):=by
 have hsz:=zi l;have h1:i<(bs l).size:=by omega
 have h2:((i:Nat):Int)<((bs l).size:Int):=by omega
 have hi2:i≤2000:=by omega
 have k4':(bs l)[i]'h1=36:=by rw[zH];exact k4
 have k1:zP ((bs l)[i]'h1)=false:=by rw[k4'];decide
 have k2:zm ((bs l)[i]'h1)=false:=by rw[k4'];decide
 have hs1:=qr ((bs l)[i]'h1);rw[k1]at hs1;have hs2:=qh ((bs l)[i]'h1);rw[k2]at hs2;have hv:((((bs l)[i]'h1).toNat:Nat):Int)=36:=by rw[k4'];rfl
 rw[hv]at hs1 hs2;clear k1 k2 k4 k4';have hw:=uk (vz w l i (i+1) ((i:Nat)+1) 2 (by simp) (by omega)) hl h0 h;have hH:=vv w l i ((i:Nat)+1) 2;have hR:=vy w l i ((i:Nat)+1) 2
 obtain⟨J,hJ⟩:∃J,J=(i+1+zE zw (l.drop (i+1))):=⟨_,rfl⟩
 rw[←hJ]at hw hE ⊢;have HJ:Hid (J=(i+1+zE zw (l.drop (i+1)))):=hJ;clear hJ;have hJ2:J≤2000:=by omega
 have b1:J<(bs l).size:=by rw[hsz];exact hE
 have b2:((J:Nat):Int)<((bs l).size:Int):=by omega
 have k3':vn ((bs l)[J]'b1)=false:=by rw[zH];have:=HJ.out;subst this;exact k3
 have hs3:=yt ((bs l)[J]'b1);rw[k3']at hs3;clear k3' k3 hE;have HS:Hid ((bs l).size=l.length):=hsz;clear hsz;go_enter Tryz.func66,Tryz.ntmps66
 go_wp2_with (first
  |(go_at_call 96;refine(jb _ _ _).mono ?_;rintro e w' ⟨rfl,rfl⟩)
  |(go_at_call 100;refine(hs1 _).mono ?_;rintro e w' ⟨rfl,rfl⟩)
  |(go_at_call 102;refine(hs2 _).mono ?_;rintro e w' ⟨rfl,rfl⟩)
  |(go_at_call 105;refine(hs3 _).mono ?_;rintro e w' ⟨rfl,rfl⟩)
  |(go_at_call 104
    refine hw.mono ?_;rintro e w1 ⟨rfl,hA⟩;have hH1:=hA.other hH (by omega);have hR1:=hA.other hR (by omega);have c0:=hH1.cell 0;have c1:=hH1.cell 1;have c2:=hH1.cell 2;have c3:=hH1.cell 3;have f1:=hH1.free 1;have f2:=hH1.free 2;have hP:=hA.at_.cell 0;have r0:w1.cell? ⟨w.heap.size,0,none⟩=some (.int .i64 0):=hR1.cell 0;have r1:w1.cell? ⟨w.heap.size,1,none⟩=some (.string ⟨#[]⟩):=hR1.cell 1;have r2:w1.cell? ⟨w.heap.size,2,none⟩=some (.int .i64 0):=hR1.cell 2;have r3:w1.cell? ⟨w.heap.size,3,none⟩=some (.int .i64 0):=hR1.cell 3;have g0:=hR1.free 0;have g1:=hR1.free 1;have g2:=hR1.free 2
    have g3:=hR1.free 3))
 go_region
 all_goals
  go_wp2
  exact bodyPost_ret (v:= .tuple #[.agg (qt ⟨2,(l.drop (i+1)).take (zE zw (l.drop (i+1))),0⟩ i),.int .i64 ((J:Nat):Int),.int .i64 0]) (by simp[results,Tryz.results66,go_sem,qt,r0,r1,r2,r3]) rfl ⟨rfl,jW hA⟩
theorem UC{w:World}{l:List UInt8}{i:Nat}(hi:i<l.length)(hl:l.length≤2000)(k4:l[i]=36)(h0:zE zw (l.drop (i+1))≠0)(h:¬128<zE zw (l.drop (i+1)))(hE:i+1+zE zw (l.drop (i+1))=l.length):
 Calls Tryz.prog 66 #[.string (bs l),.int .i64 (i:Nat)] w (j4 w i ⟨2,(l.drop (i+1)).take (zE zw (l.drop (i+1))),0⟩ (i+1+zE zw (l.drop (i+1))) 0):=by
 have hsz:=zi l;have h1:i<(bs l).size:=by omega
 have h2:((i:Nat):Int)<((bs l).size:Int):=by omega
 have hi2:i≤2000:=by omega
 have k4':(bs l)[i]'h1=36:=by rw[zH];exact k4
 have k1:zP ((bs l)[i]'h1)=false:=by rw[k4'];decide
 have k2:zm ((bs l)[i]'h1)=false:=by rw[k4'];decide
 have hs1:=qr ((bs l)[i]'h1);rw[k1]at hs1;have hs2:=qh ((bs l)[i]'h1);rw[k2]at hs2;have hv:((((bs l)[i]'h1).toNat:Nat):Int)=36:=by rw[k4'];rfl
 rw[hv]at hs1 hs2;clear k1 k2 k4 k4';have hw:=uk (vz w l i (i+1) ((i:Nat)+1) 2 (by simp) (by omega)) hl h0 h;have hH:=vv w l i ((i:Nat)+1) 2;have hR:=vy w l i ((i:Nat)+1) 2
 obtain⟨J,hJ⟩:∃J,J=(i+1+zE zw (l.drop (i+1))):=⟨_,rfl⟩
 rw[←hJ]at hw hE ⊢;have HJ:Hid (J=(i+1+zE zw (l.drop (i+1)))):=hJ;clear hJ;have hJ2:J≤2000:=by omega
 have b2:¬((J:Nat):Int)<((bs l).size:Int):=by omega
 clear hE;have HS:Hid ((bs l).size=l.length):=hsz;clear hsz;go_enter Tryz.func66,Tryz.ntmps66
 go_wp2_with (first
  |(go_at_call 96;refine(jb _ _ _).mono ?_;rintro e w' ⟨rfl,rfl⟩)
  |(go_at_call 100;refine(hs1 _).mono ?_;rintro e w' ⟨rfl,rfl⟩)
  |(go_at_call 102;refine(hs2 _).mono ?_;rintro e w' ⟨rfl,rfl⟩)
  |(go_at_call 105;refine(hs3 _).mono ?_;rintro e w' ⟨rfl,rfl⟩)
  |(go_at_call 104
    refine hw.mono ?_;rintro e w1 ⟨rfl,hA⟩;have hH1:=hA.other hH (by omega);have hR1:=hA.other hR (by omega);have c0:=hH1.cell 0;have c1:=hH1.cell 1;have c2:=hH1.cell 2;have c3:=hH1.cell 3;have f1:=hH1.free 1;have f2:=hH1.free 2;have hP:=hA.at_.cell 0;have r0:w1.cell? ⟨w.heap.size,0,none⟩=some (.int .i64 0):=hR1.cell 0;have r1:w1.cell? ⟨w.heap.size,1,none⟩=some (.string ⟨#[]⟩):=hR1.cell 1;have r2:w1.cell? ⟨w.heap.size,2,none⟩=some (.int .i64 0):=hR1.cell 2;have r3:w1.cell? ⟨w.heap.size,3,none⟩=some (.int .i64 0):=hR1.cell 3;have g0:=hR1.free 0;have g1:=hR1.free 1;have g2:=hR1.free 2
    have g3:=hR1.free 3))
 go_region
 all_goals
  go_wp2
  exact bodyPost_ret (v:= .tuple #[.agg (qt ⟨2,(l.drop (i+1)).take (zE zw (l.drop (i+1))),0⟩ i),.int .i64 ((J:Nat):Int),.int .i64 0]) (by simp[results,Tryz.results66,go_sem,qt,r0,r1,r2,r3]) rfl ⟨rfl,jW hA⟩
theorem UJ{w:World}{l:List UInt8}{i:Nat}(hi:i<l.length)(hl:l.length≤2000)(k4:l[i]=36)(h0:zE zw (l.drop (i+1))≠0)(h:¬128<zE zw (l.drop (i+1)))(hE:i+1+zE zw (l.drop (i+1))<l.length)(k3:vn (l[i+1+zE zw (l.drop (i+1))])=true):
 Calls Tryz.prog 66 #[.string (bs l),.int .i64 (i:Nat)] w (j4 w i ⟨2,(l.drop (i+1)).take (zE zw (l.drop (i+1))),0⟩ (i+1+zE zw (l.drop (i+1))) 101):=by
 have hsz:=zi l;have h1:i<(bs l).size:=by omega
 have h2:((i:Nat):Int)<((bs l).size:Int):=by omega
 have hi2:i≤2000:=by omega
 have k4':(bs l)[i]'h1=36:=by rw[zH];exact k4
 have k1:zP ((bs l)[i]'h1)=false:=by rw[k4'];decide
 have k2:zm ((bs l)[i]'h1)=false:=by rw[k4'];decide
 have hs1:=qr ((bs l)[i]'h1);rw[k1]at hs1;have hs2:=qh ((bs l)[i]'h1);rw[k2]at hs2;have hv:((((bs l)[i]'h1).toNat:Nat):Int)=36:=by rw[k4'];rfl
 rw[hv]at hs1 hs2;clear k1 k2 k4 k4';have hw:=uk (vz w l i (i+1) ((i:Nat)+1) 2 (by simp) (by omega)) hl h0 h;have hH:=vv w l i ((i:Nat)+1) 2;have hR:=vy w l i ((i:Nat)+1) 2
 obtain⟨J,hJ⟩:∃J,J=(i+1+zE zw (l.drop (i+1))):=⟨_,rfl⟩
 rw[←hJ]at hw hE ⊢;have HJ:Hid (J=(i+1+zE zw (l.drop (i+1)))):=hJ;clear hJ;have hJ2:J≤2000:=by omega
 have b1:J<(bs l).size:=by rw[hsz];exact hE
 have b2:((J:Nat):Int)<((bs l).size:Int):=by omega
 have k3':vn ((bs l)[J]'b1)=true:=by rw[zH];have:=HJ.out;subst this;exact k3
 have hs3:=yt ((bs l)[J]'b1);rw[k3']at hs3;clear k3' k3 hE;have HS:Hid ((bs l).size=l.length):=hsz;clear hsz;go_enter Tryz.func66,Tryz.ntmps66
 go_wp2_with (first
  |(go_at_call 96;refine(jb _ _ _).mono ?_;rintro e w' ⟨rfl,rfl⟩)
  |(go_at_call 100;refine(hs1 _).mono ?_;rintro e w' ⟨rfl,rfl⟩)
  |(go_at_call 102;refine(hs2 _).mono ?_;rintro e w' ⟨rfl,rfl⟩)
  |(go_at_call 105;refine(hs3 _).mono ?_;rintro e w' ⟨rfl,rfl⟩)
  |(go_at_call 104
    refine hw.mono ?_;rintro e w1 ⟨rfl,hA⟩;have hH1:=hA.other hH (by omega);have hR1:=hA.other hR (by omega);have c0:=hH1.cell 0;have c1:=hH1.cell 1;have c2:=hH1.cell 2;have c3:=hH1.cell 3;have f1:=hH1.free 1;have f2:=hH1.free 2;have hP:=hA.at_.cell 0;have r0:w1.cell? ⟨w.heap.size,0,none⟩=some (.int .i64 0):=hR1.cell 0;have r1:w1.cell? ⟨w.heap.size,1,none⟩=some (.string ⟨#[]⟩):=hR1.cell 1;have r2:w1.cell? ⟨w.heap.size,2,none⟩=some (.int .i64 0):=hR1.cell 2;have r3:w1.cell? ⟨w.heap.size,3,none⟩=some (.int .i64 0):=hR1.cell 3;have g0:=hR1.free 0;have g1:=hR1.free 1;have g2:=hR1.free 2
    have g3:=hR1.free 3))
 go_region
 all_goals
  go_wp2
  exact bodyPost_ret (v:= .tuple #[.agg (qt ⟨2,(l.drop (i+1)).take (zE zw (l.drop (i+1))),0⟩ i),.int .i64 ((J:Nat):Int),.int .i64 101]) (by simp[results,Tryz.results66,go_sem,qt,r0,r1,r2,r3]) rfl ⟨rfl,jW hA⟩
theorem Uw{w:World}{l:List UInt8}{i:Nat}(hi:i<l.length)(hl:l.length≤2000)(k4:l[i]=36)(h:128<zE zw (l.drop (i+1))):
 Calls Tryz.prog 66 #[.string (bs l),.int .i64 (i:Nat)] w (j4 w i ⟨2,[],0⟩ (i+1+zE zw (l.drop (i+1))) 102):=by
 have hsz:=zi l;have h1:i<(bs l).size:=by omega
 have h2:((i:Nat):Int)<((bs l).size:Int):=by omega
 have hi2:i≤2000:=by omega
 have k4':(bs l)[i]'h1=36:=by rw[zH];exact k4
 have k1:zP ((bs l)[i]'h1)=false:=by rw[k4'];decide
 have k2:zm ((bs l)[i]'h1)=false:=by rw[k4'];decide
 have hs1:=qr ((bs l)[i]'h1);rw[k1]at hs1;have hs2:=qh ((bs l)[i]'h1);rw[k2]at hs2;have hv:((((bs l)[i]'h1).toNat:Nat):Int)=36:=by rw[k4'];rfl
 rw[hv]at hs1 hs2;clear k1 k2 k4 k4';have hw:=Fm (vz w l i (i+1) ((i:Nat)+1) 2 (by simp) (by omega)) hl h;have hH:=vv w l i ((i:Nat)+1) 2;have hR:=vy w l i ((i:Nat)+1) 2;have HS:Hid ((bs l).size=l.length):=hsz;clear hsz;go_enter Tryz.func66,Tryz.ntmps66
 go_wp2_with (first
  |(go_at_call 96;refine(jb _ _ _).mono ?_;rintro e w' ⟨rfl,rfl⟩)
  |(go_at_call 100;refine(hs1 _).mono ?_;rintro e w' ⟨rfl,rfl⟩)
  |(go_at_call 102;refine(hs2 _).mono ?_;rintro e w' ⟨rfl,rfl⟩)
  |(go_at_call 104
    refine hw.mono ?_;rintro e w1 ⟨rfl,hA⟩;have hH1:=hA.other hH (by omega);have hR1:=hA.other hR (by omega);have c0:=hH1.cell 0;have c1:=hH1.cell 1;have c2:=hH1.cell 2;have c3:=hH1.cell 3;have f1:=hH1.free 1;have f2:=hH1.free 2;have hP:=hA.at_.cell 0;have r0:w1.cell? ⟨w.heap.size,0,none⟩=some (.int .i64 0):=hR1.cell 0;have r1:w1.cell? ⟨w.heap.size,1,none⟩=some (.string ⟨#[]⟩):=hR1.cell 1;have r2:w1.cell? ⟨w.heap.size,2,none⟩=some (.int .i64 0):=hR1.cell 2;have r3:w1.cell? ⟨w.heap.size,3,none⟩=some (.int .i64 0):=hR1.cell 3;have g0:=hR1.free 0;have g1:=hR1.free 1;have g2:=hR1.free 2
    have g3:=hR1.free 3))
 go_region
 all_goals
  go_wp2
  exact bodyPost_ret (v:= .tuple #[.agg (qt ⟨2,[],0⟩ i),.int .i64 (((i+1+zE zw (l.drop (i+1))):Nat):Int),.int .i64 102]) (by simp[results,Tryz.results66,go_sem,qt,r0,r1,r2,r3]) rfl ⟨rfl,jW hA⟩
theorem UT{w:World}{l:List UInt8}{i:Nat}(hi:i<l.length)(hl:l.length≤2000)(k4:l[i]=36)(h:zE zw (l.drop (i+1))=0):
 Calls Tryz.prog 66 #[.string (bs l),.int .i64 (i:Nat)] w (j4 w i ⟨2,[],0⟩ (i+1) 101):=by
 have hsz:=zi l;have h1:i<(bs l).size:=by omega
 have h2:((i:Nat):Int)<((bs l).size:Int):=by omega
 have hi2:i≤2000:=by omega
 have k4':(bs l)[i]'h1=36:=by rw[zH];exact k4
 have k1:zP ((bs l)[i]'h1)=false:=by rw[k4'];decide
 have k2:zm ((bs l)[i]'h1)=false:=by rw[k4'];decide
 have hs1:=qr ((bs l)[i]'h1);rw[k1]at hs1;have hs2:=qh ((bs l)[i]'h1);rw[k2]at hs2;have hv:((((bs l)[i]'h1).toNat:Nat):Int)=36:=by rw[k4'];rfl
 rw[hv]at hs1 hs2;clear k1 k2 k4 k4';have hw:=FD (vz w l i (i+1) ((i:Nat)+1) 2 (by simp) (by omega)) hl h;have hH:=vv w l i ((i:Nat)+1) 2;have hR:=vy w l i ((i:Nat)+1) 2;rw[h,Nat.add_zero]at hw;have HS:Hid ((bs l).size=l.length):=hsz;clear hsz;go_enter Tryz.func66,Tryz.ntmps66
 go_wp2_with (first
  |(go_at_call 96;refine(jb _ _ _).mono ?_;rintro e w' ⟨rfl,rfl⟩)
  |(go_at_call 100;refine(hs1 _).mono ?_;rintro e w' ⟨rfl,rfl⟩)
  |(go_at_call 102;refine(hs2 _).mono ?_;rintro e w' ⟨rfl,rfl⟩)
  |(go_at_call 104
    refine hw.mono ?_;rintro e w1 ⟨rfl,hA⟩;have hH1:=hA.other hH (by omega);have hR1:=hA.other hR (by omega);have c0:=hH1.cell 0;have c1:=hH1.cell 1;have c2:=hH1.cell 2;have c3:=hH1.cell 3;have f1:=hH1.free 1;have f2:=hH1.free 2;have hP:=hA.at_.cell 0;have r0:w1.cell? ⟨w.heap.size,0,none⟩=some (.int .i64 0):=hR1.cell 0;have r1:w1.cell? ⟨w.heap.size,1,none⟩=some (.string ⟨#[]⟩):=hR1.cell 1;have r2:w1.cell? ⟨w.heap.size,2,none⟩=some (.int .i64 0):=hR1.cell 2;have r3:w1.cell? ⟨w.heap.size,3,none⟩=some (.int .i64 0):=hR1.cell 3;have g0:=hR1.free 0;have g1:=hR1.free 1;have g2:=hR1.free 2
    have g3:=hR1.free 3))
 go_region
 all_goals
  go_wp2
  exact bodyPost_ret (v:= .tuple #[.agg (qt ⟨2,[],0⟩ i),.int .i64 (((i+1):Nat):Int),.int .i64 101]) (by simp[results,Tryz.results66,go_sem,qt,r0,r1,r2,r3]) rfl ⟨rfl,jW hA⟩
theorem Y6{w:World}{l:List UInt8}{i:Nat}(hi:i<l.length)(hl:l.length≤2000)(k4:l[i]=40):
 Calls Tryz.prog 66 #[.string (bs l),.int .i64 (i:Nat)] w (j4 w i ⟨3,[40],0⟩ (i+1) 0):=by
 have hsz:=zi l;have h1:i<(bs l).size:=by omega
 have h2:((i:Nat):Int)<((bs l).size:Int):=by omega
 have hi2:i≤2000:=by omega
 have k4':(bs l)[i]'h1=40:=by rw[zH];exact k4
 have k1:zP ((bs l)[i]'h1)=false:=by rw[k4'];decide
 have k2:zm ((bs l)[i]'h1)=false:=by rw[k4'];decide
 have hs1:=qr ((bs l)[i]'h1);rw[k1]at hs1;have hs2:=qh ((bs l)[i]'h1);rw[k2]at hs2;have hv:((((bs l)[i]'h1).toNat:Nat):Int)=40:=by rw[k4'];rfl
 rw[hv]at hs1 hs2
 have hx:(bs l).extract i (i+1)=bs [40]:=by
  rw[qK,List.drop_eq_getElem_cons hi,k4,Nat.add_sub_cancel_left];rfl
 have hb1:((i:Nat):Int)+1≤((bs l).size:Int):=by omega
 clear k1 k2 k4 k4';have HS:Hid ((bs l).size=l.length):=hsz;clear hsz;go_enter Tryz.func66,Tryz.ntmps66
 go_wp2_with (first
  |(go_at_call 96;refine(jb _ _ _).mono ?_;rintro e w' ⟨rfl,rfl⟩)
  |(go_at_call 100;refine(hs1 _).mono ?_;rintro e w' ⟨rfl,rfl⟩)
  |(go_at_call 102;refine(hs2 _).mono ?_;rintro e w' ⟨rfl,rfl⟩))
 go_region
 all_goals
  go_wp2
  exact bodyPost_ret (v:= .tuple #[.agg (qt ⟨3,[40],0⟩ i),.int .i64 (((i+1):Nat):Int),.int .i64 0]) (by simp[results,Tryz.results66,go_sem,qt]) rfl ⟨rfl,xd _⟩
theorem YZ{w:World}{l:List UInt8}{i:Nat}(hi:i<l.length)(hl:l.length≤2000)(k4:l[i]=41):
 Calls Tryz.prog 66 #[.string (bs l),.int .i64 (i:Nat)] w (j4 w i ⟨3,[41],0⟩ (i+1) 0):=by
 have hsz:=zi l;have h1:i<(bs l).size:=by omega
 have h2:((i:Nat):Int)<((bs l).size:Int):=by omega
 have hi2:i≤2000:=by omega
 have k4':(bs l)[i]'h1=41:=by rw[zH];exact k4
 have k1:zP ((bs l)[i]'h1)=false:=by rw[k4'];decide
 have k2:zm ((bs l)[i]'h1)=false:=by rw[k4'];decide
 have hs1:=qr ((bs l)[i]'h1);rw[k1]at hs1;have hs2:=qh ((bs l)[i]'h1);rw[k2]at hs2;have hv:((((bs l)[i]'h1).toNat:Nat):Int)=41:=by rw[k4'];rfl
 rw[hv]at hs1 hs2
 have hx:(bs l).extract i (i+1)=bs [41]:=by
  rw[qK,List.drop_eq_getElem_cons hi,k4,Nat.add_sub_cancel_left];rfl
 have hb1:((i:Nat):Int)+1≤((bs l).size:Int):=by omega
 clear k1 k2 k4 k4';have HS:Hid ((bs l).size=l.length):=hsz;clear hsz;go_enter Tryz.func66,Tryz.ntmps66
 go_wp2_with (first
  |(go_at_call 96;refine(jb _ _ _).mono ?_;rintro e w' ⟨rfl,rfl⟩)
  |(go_at_call 100;refine(hs1 _).mono ?_;rintro e w' ⟨rfl,rfl⟩)
  |(go_at_call 102;refine(hs2 _).mono ?_;rintro e w' ⟨rfl,rfl⟩))
 go_region
 all_goals
  go_wp2
  exact bodyPost_ret (v:= .tuple #[.agg (qt ⟨3,[41],0⟩ i),.int .i64 (((i+1):Nat):Int),.int .i64 0]) (by simp[results,Tryz.results66,go_sem,qt]) rfl ⟨rfl,xd _⟩
theorem Xc{w:World}{l:List UInt8}{i:Nat}(hi:i<l.length)(hl:l.length≤2000)(k4:l[i]=44):
 Calls Tryz.prog 66 #[.string (bs l),.int .i64 (i:Nat)] w (j4 w i ⟨3,[44],0⟩ (i+1) 0):=by
 have hsz:=zi l;have h1:i<(bs l).size:=by omega
 have h2:((i:Nat):Int)<((bs l).size:Int):=by omega
 have hi2:i≤2000:=by omega
 have k4':(bs l)[i]'h1=44:=by rw[zH];exact k4
 have k1:zP ((bs l)[i]'h1)=false:=by rw[k4'];decide
 have k2:zm ((bs l)[i]'h1)=false:=by rw[k4'];decide
 have hs1:=qr ((bs l)[i]'h1);rw[k1]at hs1;have hs2:=qh ((bs l)[i]'h1);rw[k2]at hs2;have hv:((((bs l)[i]'h1).toNat:Nat):Int)=44:=by rw[k4'];rfl
 rw[hv]at hs1 hs2
 have hx:(bs l).extract i (i+1)=bs [44]:=by
  rw[qK,List.drop_eq_getElem_cons hi,k4,Nat.add_sub_cancel_left];rfl
 have hb1:((i:Nat):Int)+1≤((bs l).size:Int):=by omega
 clear k1 k2 k4 k4';have HS:Hid ((bs l).size=l.length):=hsz;clear hsz;go_enter Tryz.func66,Tryz.ntmps66
 go_wp2_with (first
  |(go_at_call 96;refine(jb _ _ _).mono ?_;rintro e w' ⟨rfl,rfl⟩)
  |(go_at_call 100;refine(hs1 _).mono ?_;rintro e w' ⟨rfl,rfl⟩)
  |(go_at_call 102;refine(hs2 _).mono ?_;rintro e w' ⟨rfl,rfl⟩))
 go_region
 all_goals
  go_wp2
  exact bodyPost_ret (v:= .tuple #[.agg (qt ⟨3,[44],0⟩ i),.int .i64 (((i+1):Nat):Int),.int .i64 0]) (by simp[results,Tryz.results66,go_sem,qt]) rfl ⟨rfl,xd _⟩
theorem Y8{w:World}{l:List UInt8}{i:Nat}(hi:i<l.length)(hl:l.length≤2000)(k4:l[i]=61):
 Calls Tryz.prog 66 #[.string (bs l),.int .i64 (i:Nat)] w (j4 w i ⟨3,[61],0⟩ (i+1) 0):=by
 have hsz:=zi l;have h1:i<(bs l).size:=by omega
 have h2:((i:Nat):Int)<((bs l).size:Int):=by omega
 have hi2:i≤2000:=by omega
 have k4':(bs l)[i]'h1=61:=by rw[zH];exact k4
 have k1:zP ((bs l)[i]'h1)=false:=by rw[k4'];decide
 have k2:zm ((bs l)[i]'h1)=false:=by rw[k4'];decide
 have hs1:=qr ((bs l)[i]'h1);rw[k1]at hs1;have hs2:=qh ((bs l)[i]'h1);rw[k2]at hs2;have hv:((((bs l)[i]'h1).toNat:Nat):Int)=61:=by rw[k4'];rfl
 rw[hv]at hs1 hs2
 have hx:(bs l).extract i (i+1)=bs [61]:=by
  rw[qK,List.drop_eq_getElem_cons hi,k4,Nat.add_sub_cancel_left];rfl
 have hb1:((i:Nat):Int)+1≤((bs l).size:Int):=by omega
 clear k1 k2 k4 k4';have HS:Hid ((bs l).size=l.length):=hsz;clear hsz;go_enter Tryz.func66,Tryz.ntmps66
 go_wp2_with (first
  |(go_at_call 96;refine(jb _ _ _).mono ?_;rintro e w' ⟨rfl,rfl⟩)
  |(go_at_call 100;refine(hs1 _).mono ?_;rintro e w' ⟨rfl,rfl⟩)
  |(go_at_call 102;refine(hs2 _).mono ?_;rintro e w' ⟨rfl,rfl⟩))
 go_region
 all_goals
  go_wp2
  exact bodyPost_ret (v:= .tuple #[.agg (qt ⟨3,[61],0⟩ i),.int .i64 (((i+1):Nat):Int),.int .i64 0]) (by simp[results,Tryz.results66,go_sem,qt]) rfl ⟨rfl,xd _⟩
theorem YN{w:World}{l:List UInt8}{i:Nat}(hi:i<l.length)(hl:l.length≤2000)(k4:l[i]=59):
 Calls Tryz.prog 66 #[.string (bs l),.int .i64 (i:Nat)] w (j4 w i ⟨3,[59],0⟩ (i+1) 0):=by
 have hsz:=zi l;have h1:i<(bs l).size:=by omega
 have h2:((i:Nat):Int)<((bs l).size:Int):=by omega
 have hi2:i≤2000:=by omega
 have k4':(bs l)[i]'h1=59:=by rw[zH];exact k4
 have k1:zP ((bs l)[i]'h1)=false:=by rw[k4'];decide
 have k2:zm ((bs l)[i]'h1)=false:=by rw[k4'];decide
 have hs1:=qr ((bs l)[i]'h1);rw[k1]at hs1;have hs2:=qh ((bs l)[i]'h1);rw[k2]at hs2;have hv:((((bs l)[i]'h1).toNat:Nat):Int)=59:=by rw[k4'];rfl
 rw[hv]at hs1 hs2
 have hx:(bs l).extract i (i+1)=bs [59]:=by
  rw[qK,List.drop_eq_getElem_cons hi,k4,Nat.add_sub_cancel_left];rfl
 have hb1:((i:Nat):Int)+1≤((bs l).size:Int):=by omega
 clear k1 k2 k4 k4';have HS:Hid ((bs l).size=l.length):=hsz;clear hsz;go_enter Tryz.func66,Tryz.ntmps66
 go_wp2_with (first
  |(go_at_call 96;refine(jb _ _ _).mono ?_;rintro e w' ⟨rfl,rfl⟩)
  |(go_at_call 100;refine(hs1 _).mono ?_;rintro e w' ⟨rfl,rfl⟩)
  |(go_at_call 102;refine(hs2 _).mono ?_;rintro e w' ⟨rfl,rfl⟩))
 go_region
 all_goals
  go_wp2
  exact bodyPost_ret (v:= .tuple #[.agg (qt ⟨3,[59],0⟩ i),.int .i64 (((i+1):Nat):Int),.int .i64 0]) (by simp[results,Tryz.results66,go_sem,qt]) rfl ⟨rfl,xd _⟩
theorem U0{w:World}{l:List UInt8}{i:Nat}(hi:i<l.length)(hl:l.length≤2000)(k1:zP l[i]=false)(k2:zm l[i]=false)(d1:l[i]≠36)(d2:l[i]≠40)(d3:l[i]≠41)(d4:l[i]≠44)(d5:l[i]≠61)(d6:l[i]≠59):
 Calls Tryz.prog 66 #[.string (bs l),.int .i64 (i:Nat)] w (j4 w i ⟨0,[],0⟩ i 101):=by
 have hsz:=zi l;have h1:i<(bs l).size:=by omega
 have h2:((i:Nat):Int)<((bs l).size:Int):=by omega
 have hi2:i≤2000:=by omega
 have hc1:zP ((bs l)[i]'h1)=false:=by rw[zH];exact k1
 have hs1:=qr ((bs l)[i]'h1);rw[hc1]at hs1;clear hc1 k1;have hc2:zm ((bs l)[i]'h1)=false:=by rw[zH];exact k2
 have hs2:=qh ((bs l)[i]'h1);rw[hc2]at hs2;clear hc2 k2
 have hv:∀k:Nat,k<256→l[i]≠UInt8.ofNat k→¬((((bs l)[i]'h1).toNat:Nat):Int)=(k:Int):=by
  intro k hk hne e;apply hne;rw[zH]at e;apply UInt8.toNat_inj.1;simp;omega
 have v1:=hv 36 (by decide) d1;have v2:=hv 40 (by decide) d2;have v3:=hv 41 (by decide) d3;have v4:=hv 44 (by decide) d4;have v5:=hv 61 (by decide) d5;have v6:=hv 59 (by decide) d6;clear hv;have HS:Hid ((bs l).size=l.length):=hsz;clear hsz;go_enter Tryz.func66,Tryz.ntmps66
 go_wp2_with (first
  |(go_at_call 96;refine(jb _ _ _).mono ?_;rintro e w' ⟨rfl,rfl⟩)
  |(go_at_call 100;refine(hs1 _).mono ?_;rintro e w' ⟨rfl,rfl⟩)
  |(go_at_call 102;refine(hs2 _).mono ?_;rintro e w' ⟨rfl,rfl⟩))
 go_region
 all_goals
  go_wp2
  exact bodyPost_ret (v:= .tuple #[.agg (qt ⟨0,[],0⟩ i),.int .i64 ((i:Nat):Int),.int .i64 101]) (by simp[results,Tryz.results66,go_sem,qt,Vu]) rfl ⟨rfl,xd _⟩
theorem QE{l:List UInt8}{j:Nat}(h:j<l.length):vf (l.drop j)=vn l[j]:=by
 rw[List.drop_eq_getElem_cons h];rfl
theorem Yi{l:List UInt8}{j:Nat}(h:¬j<l.length):vf (l.drop j)=false:=by
 rw[List.drop_eq_nil_of_le (by omega)];rfl
theorem YK{l:List UInt8}{i:Nat}(hi:i<l.length):one (l.drop i) =
 if zP l[i]then(if 16<zE zN (l.drop i)then .error (102,0)else .ok (⟨0,(l.drop i).take (zE zN (l.drop i)),0⟩,zE zN (l.drop i)))
 else if zm l[i]then(if 9<zE zm (l.drop i)then .error (102,0)else if vf (l.drop (i+zE zm (l.drop i)))then .error (101,zE zm (l.drop i))else .ok (⟨1,[],val ((l.drop i).take (zE zm (l.drop i)))⟩,zE zm (l.drop i)))
 else if l[i]==36 then(if zE zw (l.drop (i+1))=0 then .error (101,1)else if 128<zE zw (l.drop (i+1))then .error (102,0)else if vf (l.drop (i+1+zE zw (l.drop (i+1))))then .error (101,zE zw (l.drop (i+1))+1)else .ok (⟨2,(l.drop (i+1)).take (zE zw (l.drop (i+1))),0⟩,zE zw (l.drop (i+1))+1))
 else if xX l[i]then .ok (⟨3,[l[i]],0⟩,1)
 else .error (101,0):=by
 have hd:=List.drop_eq_getElem_cons hi
 conv=>lhs;rw[hd]
 simp only[one];rw[←hd,List.drop_drop,List.drop_drop]
theorem YA{c:UInt8}(h:xX c=true):c=40∨c=41∨c=44∨c=61∨c=59:=by
 simp[xX]at h;rcases h with(((h|h)|h)|h)|h<;>simp[h]
theorem Fd{w:World}{l:List UInt8}{i n:Nat}{t:Tk}(hi:i<l.length)(hl:l.length≤2000)(h:one (l.drop i)= .ok (t,n)):
 Calls Tryz.prog 66 #[.string (bs l),.int .i64 (i:Nat)] w (j4 w i t (i+n) 0):=by
 rw[YK hi]at h
 split at h
 ·rename_i k1
  split at h
  ·cases h
  ·rename_i hn
   cases h;exact kZ hi hl k1 hn
 ·rename_i k1
  have k1:zP l[i]=false:=by simpa using k1
  split at h
  ·rename_i k2
   have h0:zE zm (l.drop i)≠0:=by rw[List.drop_eq_getElem_cons hi,qR,if_pos k2];omega
   split at h
   ·cases h
   ·rename_i hn
    split at h
    ·cases h
    ·rename_i hla
     cases h;by_cases hE:i+zE zm (l.drop i)<l.length
     ·rw[QE hE]at hla
      exact gE hi hl k1 k2 hn h0 hE (by simpa using hla)
     ·exact U3 hi hl k1 k2 hn h0 (by have:=xy (p:=zm) (Nat.le_of_lt hi);omega)
  ·rename_i k2
   split at h
   ·rename_i k4
    have k4:=eq_of_beq k4
    split at h
    ·cases h
    ·rename_i h0
     split at h
     ·cases h
     ·rename_i hn
      split at h
      ·cases h
      ·rename_i hla
       cases h;rw[show i+(zE zw (l.drop (i+1))+1)=i+1+zE zw (l.drop (i+1)) by omega];by_cases hE:i+1+zE zw (l.drop (i+1))<l.length
       ·rw[QE hE]at hla
        exact gS hi hl k4 h0 hn hE (by simpa using hla)
       ·exact UC hi hl k4 h0 hn (by have:=xy (p:=zw) (j:=i+1) hi;omega)
   ·split at h
    ·rename_i k5
     cases h;rcases YA k5 with e|e|e|e|e
     ·rw[e];exact Y6 hi hl e
     ·rw[e];exact YZ hi hl e
     ·rw[e];exact Xc hi hl e
     ·rw[e];exact Y8 hi hl e
     ·rw[e];exact YN hi hl e
    ·cases h
def zax(w:World)(i er o:Nat)(e:Ending)(w':World):Prop:=∃t E,j4 w i t E (er:Nat) e w'∧(er=101→E=i+o)∧(er≠101→er=102∧o=0)
theorem Gx{w:World}{l:List UInt8}{i er o:Nat}(hi:i<l.length)(hl:l.length≤2000)(h:one (l.drop i)= .error (er,o)):
 Calls Tryz.prog 66 #[.string (bs l),.int .i64 (i:Nat)] w (zax w i er o):=by
 rw[YK hi]at h
 split at h
 ·rename_i k1
  split at h
  ·rename_i hn
   cases h;exact(KW hi hl k1 hn).mono λe w' hr=>⟨_,_,hr,λe=>(by cases e),λ_=>⟨rfl,rfl⟩⟩
  ·cases h
 ·rename_i k1
  have k1:zP l[i]=false:=by simpa using k1
  split at h
  ·rename_i k2
   have h0:zE zm (l.drop i)≠0:=by rw[List.drop_eq_getElem_cons hi,qR,if_pos k2];omega
   split at h
   ·rename_i hn
    cases h;exact(UN hi hl k1 k2 hn).mono λe w' hr=>⟨_,_,hr,λe=>(by cases e),λ_=>⟨rfl,rfl⟩⟩
   ·rename_i hn
    split at h
    ·rename_i hla
     cases h;by_cases hE:i+zE zm (l.drop i)<l.length
     ·rw[QE hE]at hla
      exact(kQ hi hl k1 k2 hn h0 hE hla).mono λe w' hr=>⟨_,_,hr,λ_=>rfl,λe=>absurd rfl e⟩
     ·rw[Yi hE]at hla;cases hla
    ·cases h
  ·rename_i k2
   have k2:zm l[i]=false:=by simpa using k2
   split at h
   ·rename_i k4
    have k4:=eq_of_beq k4
    split at h
    ·rename_i h0
     cases h;exact(UT hi hl k4 h0).mono λe w' hr=>⟨_,_,hr,λ_=>rfl,λe=>absurd rfl e⟩
    ·rename_i h0
     split at h
     ·rename_i hn
      cases h;exact(Uw hi hl k4 hn).mono λe w' hr=>⟨_,_,hr,λe=>(by cases e),λ_=>⟨rfl,rfl⟩⟩
     ·rename_i hn
      split at h
      ·rename_i hla
       cases h;by_cases hE:i+1+zE zw (l.drop (i+1))<l.length
       ·rw[QE hE]at hla
        exact(UJ hi hl k4 h0 hn hE hla).mono λe w' hr=>⟨_,_,hr,λ_=>by omega,λe=>absurd rfl e⟩
       ·rw[Yi hE]at hla;cases hla
      ·cases h
   ·rename_i d1
    split at h
    ·cases h
    ·rename_i d2
     cases h;simp[xX]at d2;exact(U0 hi hl k1 k2 (by simpa using d1) d2.1.1.1.1 d2.1.1.1.2 d2.1.1.2 d2.1.2 d2.2).mono λe w' hr=>⟨_,_,hr,λ_=>rfl,λe=>absurd rfl e⟩
theorem zf{ops:Array Oper}{rest:List Oper}{o:Oper}{a:Act}{w:World}{Q:Exit→Act→World→Prop}(n:Nat)(hd:o.dst=some n)(h:wpList Tryz.prog ops Q (o::rest) a w):wpList Tryz.prog ops Q (o::rest) a w:=h
def Ud(ts:zo):List Value:=ts.flatMap λt=>(qt t.1 t.2).toList
theorem Uu(a b:zo):Ud (a++b)=Ud a++Ud b:=by simp[Ud]
theorem uw(t:Tk×Nat):Ud [t]=(qt t.1 t.2).toList:=by simp[Ud]
theorem G5(ts:zo):∀u ∈ Ud ts,u.oneCell'=true:=by
 intro u hu;obtain⟨t,_,h⟩:=List.mem_flatMap.1 hu;simp[qt]at h;rcases h with rfl|rfl|rfl|rfl<;>rfl
theorem He(ts:zo)(i:Nat)(h:i<ts.length)(j:Nat)(hj:j<4):(Ud ts)[i*4+j]?=(qt ts[i].1 ts[i].2)[j]?:=by
 induction ts generalizing i with
 |nil=>simp at h
 |cons t r ih =>
  have e:Ud (t::r)=(qt t.1 t.2).toList++Ud r:=by simp[Ud]
  have e4:(qt t.1 t.2).toList.length=4:=rfl;rw[e];cases i with
  |zero =>
   rw[List.getElem?_append_left (by rw[e4];omega)];simp
  |succ i =>
   rw[List.getElem?_append_right (by rw[e4];omega),e4];simp only[List.length_cons]at h;rw[show(i+1)*4+j-4=i*4+j by omega,ih i (by omega)];simp
def jE(w:World)(base:Nat)(v:Value)(ts:zo):Prop:=w.ownsRow base 100 4 v ts.length (Ud ts)
theorem zI{w w':World}{base e size n:Nat}{v:Value}{xs:List Value}(h:w.ownsRow base e size v n xs)(hb:∀g o,v.ownBlock=some g→w.heap[g]?=some o→w'.heap[g]?=some o):w'.ownsRow base e size v n xs:=by
 refine⟨h.1,?_⟩;rcases h.2 with h0|⟨g,cap,cur,hv,h1,hg,r⟩
 ·exact .inl h0
 ·exact .inr ⟨g,cap,cur,hv,h1,hb g _ (by rw[hv];rfl) hg,r⟩
theorem qy{w:World}{base e size n:Nat}{v:Value}{xs:List Value}(h:w.ownsRow base e size v n xs){g:Nat}(hg:v.ownBlock=some g):g<w.heap.size∧base≤g:=by
 rcases h.2 with⟨rfl,_⟩|⟨g',cap,cur,rfl,h1,hg',r⟩
 ·cases hg
 ·cases hg;exact⟨(Array.getElem?_eq_some_iff.1 hg').1,h1⟩
theorem jE.below{w w':World}{base:Nat}{v:Value}{ts:zo}(h:jE w base v ts)(hb:Below w.heap.size w w'):jE w' base v ts:=
 zI h (λg o e ho=>(hb.block g (qy h e).1).trans ho)
theorem jE.empty(w:World)(base:Nat):jE w base (.slice none 0 0) []:=⟨rfl,.inl ⟨rfl,rfl⟩⟩
theorem jE.mono{w:World}{base base':Nat}{v:Value}{ts:zo}(h:jE w base v ts)(hb:base'≤base):jE w base' v ts:=by
 refine⟨h.1,?_⟩;rcases h.2 with h0|⟨g,cap,cur,hv,h1,r⟩
 ·exact .inl h0
 ·exact .inr ⟨g,cap,cur,hv,by omega,r⟩
theorem Tryz.infoTok:(Tryz.prog.info? 100).map (λi=>(i.zero,i.size,i.bytes))=some (some (.agg #[.int .i64 0,.string ⟨#[]⟩,.int .i64 0,.int .i64 0]),4,40):=by kernel_rfl
theorem Z6{w w':World}{base e size n:Nat}{v:Value}{xs:List Value}(h:w.ownsRow base e size v n xs)(hg:w.grownBy w' v.ownBlock)(hb:base≤w.heap.size):Below base w w':=
 ⟨hg.os,hg.tape,hg.output,hg.size,λk hk=>hg.block k (by omega) (λe=>by have:=(qy h e.symm).2;omega)⟩
theorem xC{ops:Array Oper}{rest:List Oper}{o:Oper}{a:Act}{w:World}{Q:Exit→Act→World→Prop}(hgd:o.guard=none)(s x:Operand)
 (ho:o.op= .call { callee:= .builtin .append,args:=#[s,x],argTypes:=#[56,56] }) (base:Nat) (v:Value) (ts:zo) (hs:a.eval s=v) (hown:jE w base v ts)
 (G:Nat) (t:Tk) (p:Nat) (hx:a.eval x= .slice (some ⟨G,0,none⟩) 1 1) (hG:ze w G 100 (qt t p)) (hn:ts.length≤500) (hbase:base≤w.heap.size)
 (h:∀v' w',jE w' base v' (ts++ [(t,p)])→Below base w w'→wpList Tryz.prog ops Q rest (a.put o.dst v') w'):wpList Tryz.prog ops Q (o::rest) a w:=by
 obtain⟨i0,hi,hz0,hz1,hz2⟩:=info_parts Tryz.infoTok;refine wpList_append_own w hgd s x 56 ho base 100 i0 (.agg #[.int .i64 0,.string ⟨#[]⟩,.int .i64 0,.int .i64 0]) 4 40 Tryz.underlying56 hi hz0 hz1 hz2 rfl (by decide) v ts.length (Ud ts) hs hown ⟨G,0,none⟩ 1 1 (qt t p).toList hx rfl ?_ ?_ (by unfold maxLen;omega) (by omega) hbase ?_
 ·intro j u hj
  have:=hG.cell j;rw[show(⟨G,0,none⟩:Addr).add j=⟨G,j,none⟩ by simp[Addr.add];omega];rw[this]
  simpa using hj
 ·intro u hu
  exact G5 [(t,p)] u (by rw[uw];exact hu)
 ·intro v' w' h1 h2 _
  refine h v' w' ?_ (Z6 hown h2 hbase);show w'.ownsRow base 100 4 v' (ts++ [(t,p)]).length (Ud (ts++ [(t,p)]));rw[Uu,uw,List.length_append];exact h1
theorem Xq{x:List UInt8}{er o:Nat}(h:one x= .error (er,o)):er=101∨er=102∧o=0:=by
 cases x with
 |nil=>cases h;exact .inl rfl
 |cons c r =>
  simp only[one]at h
  repeat' split at h
  all_goals first |(cases h;exact .inl rfl)|(cases h;exact .inr ⟨rfl,rfl⟩)|cases h
def Ye(w:World)(R:Except (Nat×Nat) zo)(e:Ending)(w':World):Prop:=Below w.heap.size w w'∧match R with
 | .error (er,o)=>e= .returned (.tuple #[.slice none 0 0,.int .i64 (er:Nat),.int .i64 (o:Nat)])
 | .ok ts=>∃v,e= .returned (.tuple #[v,.int .i64 0,.int .i64 (-1)])∧jE w' w.heap.size v ts
theorem Gr(w:World)(l:List UInt8)(h:2000<l.length)(hm:l.length≤maxLen):Calls Tryz.prog 35 #[.string (bs l)] w (Ye w (j9 l)):=by
 unfold maxLen at hm;have hsz:=zi l;have h1:(2000:Int)<((bs l).size:Int):=by omega
 have HR:Hid (j9 l= .error (103,0)):=by show j9 l=_;unfold j9;rw[if_pos h]
 clear hsz;go_enter Tryz.func35,Tryz.ntmps35
 go_wp2
 go_ret3
 exact⟨Below.refl _ _,by rw[HR.out];rfl⟩
def vH(w wr:World)(l:List UInt8)(v:Value)(i:Nat)(ts:zo):Prop:=i≤l.length∧Below w.heap.size w wr∧jE wr w.heap.size v ts∧ts.length≤500∧∃f,l.length-i<f∧j9 l=xA ts (ym f (l.drop i) i ts.length)
theorem vH.step{w wr:World}{l:List UInt8}{v:Value}{i:Nat}{ts:zo}(h:vH w wr l v i ts):∃f,l.length-i≤f∧j9 l=xA ts (ym (f+1) (l.drop i) i ts.length):=by
 obtain⟨h1,h2,h3,h4,f,h5,h6⟩:=h;cases f with
 |zero=>omega
 |succ f=>exact⟨f,by omega,h6⟩
theorem vH.done{w wr:World}{l:List UInt8}{v:Value}{i:Nat}{ts:zo}(h:vH w wr l v i ts)(hd:¬i+qJ false (l.drop i)<l.length):j9 l= .ok ts:=by
 obtain⟨f,hf,e⟩:=h.step;rw[e,yg (by rw[List.drop_drop];exact List.drop_eq_nil_of_le (by omega))];simp[xA]
theorem vH.ne{l:List UInt8}{i:Nat}(hd:i+qJ false (l.drop i)<l.length):(l.drop i).drop (qJ false (l.drop i))≠ []:=by
 rw[List.drop_drop];intro e;have:=congrArg List.length e;simp at this;omega
theorem vH.bad{w wr:World}{l:List UInt8}{v:Value}{i er o:Nat}{ts:zo}(h:vH w wr l v i ts)(hd:i+qJ false (l.drop i)<l.length)(ho:one (l.drop (i+qJ false (l.drop i)))= .error (er,o)):j9 l= .error (er,i+qJ false (l.drop i)+o):=by
 obtain⟨f,hf,e⟩:=h.step;rw[e,yL (vH.ne hd) (by rw[List.drop_drop];exact ho)];rfl
theorem vH.many{w wr:World}{l:List UInt8}{v:Value}{i n:Nat}{t:Tk}{ts:zo}(h:vH w wr l v i ts)(hd:i+qJ false (l.drop i)<l.length)(ho:one (l.drop (i+qJ false (l.drop i)))= .ok (t,n))(h5:ts.length=500):j9 l= .error (103,i+qJ false (l.drop i)):=by
 obtain⟨f,hf,e⟩:=h.step;rw[h5]at e;rw[e,yE (vH.ne hd) (by rw[List.drop_drop];exact ho)];rfl
theorem vH.next{w wr w':World}{l:List UInt8}{v v':Value}{i n:Nat}{t:Tk}{ts:zo}(h:vH w wr l v i ts)(hd:i+qJ false (l.drop i)<l.length)(ho:one (l.drop (i+qJ false (l.drop i)))= .ok (t,n))(h5:ts.length≠500)
 (hb:Below w.heap.size w w') (hr:jE w' w.heap.size v' (ts++ [(t,i+qJ false (l.drop i))])):vH w w' l v' (i+qJ false (l.drop i)+n) (ts++ [(t,i+qJ false (l.drop i))]):=by
 obtain⟨f,hf,e⟩:=h.step;have hn:=yV ho;rw[List.length_drop]at hn;have h4:=h.2.2.2.1;refine⟨by omega,hb,hr,by rw[List.length_append];simp;omega,f,by omega,?_⟩;rw[e,vC (vH.ne hd) (by rw[List.drop_drop];exact ho) h5,Jp,List.drop_drop,List.length_append];rw[show i+(qJ false (l.drop i)+n)=i+qJ false (l.drop i)+n by omega];rfl
theorem QV{w:World}{base:Nat}{v:Value}{ts:zo}(h:jE w base v ts):∃A C,v= .slice A ts.length C:=by
 rcases h.2 with⟨rfl,h0⟩|⟨g,cap,cur,rfl,_⟩
 ·exact⟨none,0,by rw[h0]⟩
 ·exact⟨_,_,rfl⟩
theorem JM{w wr w2:World}(h:Below w.heap.size w wr)(h2:Below wr.heap.size wr w2)(o:Obj):Below w.heap.size w (w2.alloc o):=
 (h.trans (h2.mono h.size)).alloc (by have:=h.size;have:=h2.size;omega) o
theorem uH{w wr w2 w3 w4:World}{o1 o2:Obj}(h:Below w.heap.size w wr)(h2:Below wr.heap.size wr w2)(h3:Below w.heap.size ((w2.alloc o1).alloc o2) w3)(h4:Below w3.heap.size w3 w4):Below w.heap.size w w4:=by
 have s1:=h.size;have s2:=h2.size;have s3:=h3.size;simp at s3;exact((((h.trans (h2.mono s1)).alloc (by omega) o1).alloc (by simp;omega) o2).trans h3).trans (h4.mono (by omega))
theorem za0(w:World)(l:List UInt8)(h:¬2000<l.length):Calls Tryz.prog 35 #[.string (bs l)] w (Ye w (j9 l)):=by
 have hl:l.length≤2000:=by omega
 have hsz:=zi l;have h1:¬(2000:Int)<((bs l).size:Int):=by omega
 have HS:Hid ((bs l).size=l.length):=hsz;have hp:=λW=>XT W l 0 (Nat.zero_le _) hl
 clear hsz;simp only[Nat.zero_add]at hp;go_enter Tryz.func35,Tryz.ntmps35
 go_wp2_with (go_at_call 65;refine(hp _).mono ?_;rintro e w1 ⟨rfl,hb1⟩)
 go_loopw [5,6] (λv z wr=>∃(i:Nat) (ts:zo),vH w wr l v i ts∧z= .int .i64 ((i+qJ false (l.drop i):Nat):Int)) (λ_ z _=>2000-(intOf z).toNat)
 case atStart=>exact⟨0,[],⟨Nat.zero_le _,hb1,jE.empty _ _,by simp,l.length+1,by omega,by rw[Yc];unfold j9;rw[if_neg h];rfl⟩,by simp⟩
 case round =>
  clear hb1 hp;obtain⟨i,ts,hA,rfl⟩:=hrel;have hle:=VC false (l.drop i);rw[List.length_drop]at hle;obtain⟨hi,hbw,hrow,h500,-⟩:=id hA;obtain⟨A,C,rfl⟩:=QV hrow
  obtain⟨J,hJ⟩:∃J,J=i+qJ false (l.drop i):=⟨_,rfl⟩
  have hJ2:J≤2000:=by omega
  have HJ:Hid (J=i+qJ false (l.drop i)):=hJ;rw[←hJ]
  obtain⟨M,hM⟩:∃M,M=ts.length:=⟨_,rfl⟩
  have HM:Hid (M=ts.length):=hM;rw[←hM]at h500 hrow hA ⊢;have hM2:M≤500:=h500;clear hM h500 hle;by_cases hlt:J<l.length
  ·have h2:((J:Nat):Int)<((bs l).size:Int):=by rw[HS.out];omega
   cases ho:one (l.drop J)with
   |error r =>
    obtain⟨er,o⟩:=r;have hbad:=hA.bad (by rw[←hJ];exact hlt) (by rw[←hJ];exact ho);rw[←hJ]at hbad;have ht:=λW=>Gx (w:=W) hlt hl ho
    have HB:Hid (j9 l= .error (er,J+o)):=hbad;rcases Xq ho with e|⟨e,e'⟩
    ·subst e
     clear hbad ho hJ hA
     go_wp2_with (go_at_call 66;refine(ht _).mono ?_;rintro e w2 ⟨t,E,⟨rfl,hb2⟩,hE,-⟩;have HE:Hid (E=J+o):=hE rfl;clear hE;simp only[qt])
     go_ret3
     exact⟨JM hbw hb2 _,by rw[HB.out,←HE.out];rfl⟩
    ·subst e e'
     clear hbad ho hJ hA
     go_wp2_with (go_at_call 66;refine(ht _).mono ?_;rintro e w2 ⟨t,E,⟨rfl,hb2⟩,hE,-⟩;simp only[qt])
     go_ret3
     exact⟨JM hbw hb2 _,by rw[HB.out];rfl⟩
   |ok r =>
    obtain⟨t,n⟩:=r;have ht:=λW=>Fd (w:=W) hlt hl ho
    have hn:=yV ho;rw[List.length_drop]at hn;have hlt':i+qJ false (l.drop i)<l.length:=by rw[←hJ];exact hlt
    have ho':one (l.drop (i+qJ false (l.drop i)))= .ok (t,n):=by rw[←hJ];exact ho
    by_cases h5:M=500
    ·have hmany:=hA.many hlt' ho' (HM.out ▸ h5)
     rw[←hJ]at hmany;have HB:Hid (j9 l= .error (103,J)):=hmany;clear hmany ho ho' hlt' hJ hA;subst h5
     go_wp2_with (go_at_call 66;refine(ht _).mono ?_;rintro e w2 ⟨rfl,hb2⟩;simp only[qt])
     go_ret3
     exact⟨JM hbw hb2 _,by rw[HB.out];rfl⟩
    ·have h5':¬((M:Nat):Int)=500:=by omega
     have hnext:=λw' v' hb hr=>hA.next (w':=w') (v':=v') hlt' ho' (by rw[←HM.out];exact h5) hb hr
     rw[←hJ]at hnext;have hp:=λW=>XT W l (J+n) (by omega) hl
     obtain⟨E,hE⟩:∃E,E=J+n:=⟨_,rfl⟩
     rw[←hE]at hp ht hnext;have hE1:J<E:=by omega
     have hE2:E≤2000:=by omega
     clear ho ho' hlt' hJ hA hE
     go_wp2_with (first
      |(go_at_call 66;refine(ht _).mono ?_;rintro e w2 ⟨rfl,hb2⟩;simp only[qt])
      |(go_at_call 65;refine(hp _).mono ?_;rintro e w4 ⟨rfl,hb4⟩)
      |(refine zf 44 rfl ?_
        refine xC rfl _ _ rfl w.heap.size _ ts rfl (((hrow.below hb2).below ((Below.refl _ _).alloc (Nat.le_refl _) _)).below ((Below.refl _ _).alloc (Nat.le_refl _) _)) (w2.heap.size+1) t J rfl (ze.new_at (by simp)) (by rw[←HM.out];exact hM2) (by have:=hbw.size;have:=hb2.size;simp;omega) ?_
        intro v' w3 hr3 hb3))
     go_roundw
     case rel =>
      have hbA:Below w.heap.size w w4:=uH hbw hb2 hb3 hb4;exact⟨E,_,hnext w4 _ hbA (hr3.below hb4),rfl⟩
     case measure=>simp[intOf];omega
  ·have h2:¬((J:Nat):Int)<((bs l).size:Int):=by rw[HS.out];omega
   have hdone:=hA.done (by rw[←hJ];exact hlt);have HB:Hid (j9 l= .ok ts):=hdone;clear hdone hA hJ
   go_wp2
   go_ret3
   exact⟨hbw,by rw[HB.out];exact⟨_,rfl,hrow⟩⟩
theorem XI(w:World)(l:List UInt8)(hm:l.length≤maxLen):Calls Tryz.prog 35 #[.string (bs l)] w (Ye w (j9 l)):=by
 by_cases h:2000<l.length
 ·exact Gr w l h hm
 ·exact za0 w l h
theorem jE.lies{w:World}{base:Nat}{v:Value}{ts:zo}(h:jE w base v ts)(hne:ts≠ []):∃g C,v= .slice (some ⟨g,0,none⟩) ts.length C∧base≤g∧g<w.heap.size∧ts.length≤C∧C≤maxLen ∧
 (∃cur,ze w g 100 cur∧cur.size=C*4∧cur.toList.take (ts.length*4)=Ud ts)∧∀i (hi:i<ts.length) j,j<4→w.cell? ⟨g,i*4+j,none⟩=(qt ts[i].1 ts[i].2)[j]?:=by
 rcases h.2 with⟨rfl,h0⟩|⟨g,cap,cur,rfl,h1,hg,hn,hm,hs,ht⟩
 ·exact absurd (List.length_eq_zero_iff.1 h0) hne
 ·refine⟨g,cap,rfl,h1,(Array.getElem?_eq_some_iff.1 hg).1,hn,hm,⟨cur,hg,hs,ht⟩,λi hi j hj=>?_⟩
  rw[←He ts i hi j hj,←ht,List.getElem?_take_of_lt (by omega),Array.getElem?_toList];exact cell_of_row w g (i*4+j) cur _ _ hg
theorem UH(x:List UInt8)(w:World):Calls Tryz.prog 138 #[.string (bs x)] w λe w'=>e= .returned (.bool (Zy x))∧w'=w:=by
 have ht:=zx x;go_enter Tryz.func138,Tryz.ntmps138
 go_wp2
 all_goals
  go_ret
  refine⟨zU ?_,rfl⟩
  symm
  simp_all only[Zy,Bool.true_or,Bool.or_true,Bool.or_false,Bool.false_eq_true]
def xG(x:List UInt8)(k:Nat):Bool:=(RW.take k).any λy=>y==x
theorem kj(x:List UInt8)(k:Nat)(h:k<14):xG x (k+1)=(xG x k||(RW[k]'h==x)):=by
 unfold xG;rw[List.take_succ_eq_append_getElem h,List.any_append];simp
theorem Vb(x:List UInt8):xG x 14=Zy x:=by
 unfold xG Zy;have e:∀y:List UInt8,(y==x)=(x==y):=λy=>BEq.comm
 simp only[RW,List.take_succ_cons,List.take_zero,List.any_cons,List.any_nil,Bool.or_false,Bool.or_assoc,e]
theorem ue(x:List UInt8)(k:Nat)(h:k<14)(e:(RW[k]'h==x)=true):Zy x=true:=by
 rw[←Vb];unfold xG;exact List.any_eq_true.2 ⟨_,List.mem_take_iff_getElem.2 ⟨k,by simp[RW];omega,rfl⟩,e⟩
def Z7:Array Value:=#[.string ⟨#[100,101,118,105,99,101]⟩,.string ⟨#[106,111,117,114,110,97,108]⟩,.string ⟨#[107,101,121]⟩,.string ⟨#[114,111,111,116]⟩,.string ⟨#[118,111,108,117,109,101]⟩,.string ⟨#[101,120,112,111,114,116]⟩,.string ⟨#[114,101,97,100,111,110,108,121]⟩,.string ⟨#[108,105,110,101,97,114]⟩,.string ⟨#[99,111,110,99,97,116]⟩,.string ⟨#[109,105,114,114,111,114]⟩,.string ⟨#[115,110,97,112,115,104,111,116]⟩,.string ⟨#[99,114,121,112,116]⟩,.string ⟨#[105,110,116,101,103,114,105,116,121]⟩,.string ⟨#[118,101,114,105,116,121]⟩]
theorem XS(k:Nat)(h:k<14):Z7[k]?=some (.string (bs (RW[k]'h))):=by
 match k,h with
 |0,_=>rfl
 |1,_=>rfl
 |2,_=>rfl
 |3,_=>rfl
 |4,_=>rfl
 |5,_=>rfl
 |6,_=>rfl
 |7,_=>rfl
 |8,_=>rfl
 |9,_=>rfl
 |10,_=>rfl
 |11,_=>rfl
 |12,_=>rfl
 |13,_=>rfl
theorem Jk(x:List UInt8)(w:World):Calls Tryz.prog 76 #[.string (bs x)] w λe w'=>e= .returned (.bool (Zy x))∧Below w.heap.size w w':=by
 have ht:=zx x;have hH:ze (w.alloc (.cells Z7 9)) w.heap.size 9 Z7:=ze.new _ _ _;have hB:Below w.heap.size w (w.alloc (.cells Z7 9)):=(Below.refl _ _).alloc (Nat.le_refl _) _
 obtain⟨W,hW⟩:∃W,W=w.alloc (.cells Z7 9):=⟨_,rfl⟩
 rw[←hW]at hH hB;have HW:Hid (W=w.alloc (.cells Z7 9)):=hW;clear hW;go_enter Tryz.func76,Tryz.ntmps76
 go_wp2_with (first
  |(refine zf 5 rfl ?_
    refine j1 (some 5) (.slice (some ⟨w.heap.size,0,none⟩) 14 14) W rfl (by rfl) (by rw[HW.out];kernel_rfl) ?_))
 go_loop [4] (λz=>∃k:Nat,k≤14∧z= .int .i64 (k:Nat)∧xG x k=false) (λz=>14-(intOf z).toNat)
 case atStart=>exact⟨0,Nat.zero_le _,rfl,rfl⟩
 case round =>
  obtain⟨k,hk,rfl,hr⟩:=hrel;have HR:Hid (xG x k=false):=hr;clear hr;by_cases hlt:k<14
  ·have hc:W.cell? ⟨w.heap.size,k,none⟩=some (.string (bs (RW[k]'hlt))):=by rw[hH.cell];exact XS k hlt
   have ht2:=zx (RW[k]'hlt);have hy:=ue x k hlt;have hn:=kj x k hlt;generalize RW[k]'hlt=y at hc ht2 hy hn;have HN:Hid (xG x (k+1)=(xG x k||(y==x))):=hn;have HY:Hid ((y==x)=true→Zy x=true):=hy;clear hy hn
   cases e:(y==x)
   ·go_wp2
    go_round
    case rel=>exact⟨k+1,by omega,by go_num,by rw[HN.out,HR.out,e];rfl⟩
    case measure=>simp[intOf];omega
   ·go_wp2
    go_ret
    exact⟨zU (HY.out e).symm,hB⟩
  ·have hk14:k=14:=by omega
   subst hk14
   go_wp2
   go_ret
   exact⟨zU (by rw[←Vb,HR.out]),hB⟩
def xV(w:World)(v:Value)(l:List (List UInt8)):Prop:=(l= []∧v= .slice none 0 0)∨∃g,v= .slice (some ⟨g,0,none⟩) l.length l.length∧ze w g 9 (l.map λx=>Value.string (bs x)).toArray
def kw(ks:List Kd):List (List UInt8):=ks.map Kd.w
theorem xV.below{w w':World}{v:Value}{l:List (List UInt8)}(h:xV w v l)(hb:Below w.heap.size w w'):xV w' v l:=by
 rcases h with h|⟨g,rfl,h⟩
 ·exact .inl h
 ·exact .inr ⟨g,rfl,h.below hb h.lt⟩
theorem YS{x:List UInt8}(h:(x== [108,105,110,101,97,114])=true):zr x=([.ex,.nu,.nu],false):=by
 rw[eq_of_beq h];rfl
theorem Y2{x:List UInt8}(h:(x== [99,111,110,99,97,116])=true):zr x=([.ex],true):=by
 rw[eq_of_beq h];rfl
theorem XC{x:List UInt8}(h:(x== [109,105,114,114,111,114])=true):zr x=([.ex],true):=by
 rw[eq_of_beq h];rfl
theorem J6{x:List UInt8}(h:(x== [115,110,97,112,115,104,111,116])=true):zr x=([.ex,.ex,.nu],false):=by
 rw[eq_of_beq h];rfl
theorem X0{x:List UInt8}(h:(x== [99,114,121,112,116])=true):zr x=([.ex,.na],false):=by
 rw[eq_of_beq h];rfl
theorem Jw{x:List UInt8}(h:(x== [105,110,116,101,103,114,105,116,121])=true):zr x=([.ex,.na],false):=by
 rw[eq_of_beq h];rfl
theorem Xk{x:List UInt8}(h:(x== [118,101,114,105,116,121])=true):zr x=([.ex,.na],false):=by
 rw[eq_of_beq h];rfl
theorem U7{x:List UInt8}(hLinear:(x== [108,105,110,101,97,114])=false)(hConcat:(x== [99,111,110,99,97,116])=false)(hMirror:(x== [109,105,114,114,111,114])=false)(hSnapshot:(x== [115,110,97,112,115,104,111,116])=false)(hCrypt:(x== [99,114,121,112,116])=false)(hIntegrity:(x== [105,110,116,101,103,114,105,116,121])=false)(hVerity:(x== [118,101,114,105,116,121])=false):zr x=([],false):=by
 simp only[beq_eq_false_iff_ne]at *;unfold zr;rw[if_neg (show ¬x=jh from hLinear),if_neg (show ¬(x=qZ∨x=jq) by(rintro(h|h);exact hConcat h;exact hMirror h)),if_neg (show ¬x=qw from hSnapshot),if_neg (show ¬(x=vx∨x=qH∨x=jV) by(rintro(h|h|h);exact hCrypt h;exact hIntegrity h;exact hVerity h))]
theorem Vo(x:List UInt8)(w:World):Calls Tryz.prog 139 #[.string (bs x)] w λe w'=>∃v,e= .returned (.tuple #[v,.bool (zr x).2])∧Below w.heap.size w w'∧xV w' v (kw (zr x).1):=by
 have ht:=zx x;go_enter Tryz.func139,Tryz.ntmps139
 go_wp2
 all_goals
  go_ret2
  first
   |(rw[YS (by assumption)];exact⟨_,rfl,(Below.refl _ _).alloc (Nat.le_refl _) _,.inr ⟨w.heap.size,rfl,ze.new _ _ _⟩⟩)
   |(rw[Y2 (by assumption)];exact⟨_,rfl,(Below.refl _ _).alloc (Nat.le_refl _) _,.inr ⟨w.heap.size,rfl,ze.new _ _ _⟩⟩)
   |(rw[XC (by assumption)];exact⟨_,rfl,(Below.refl _ _).alloc (Nat.le_refl _) _,.inr ⟨w.heap.size,rfl,ze.new _ _ _⟩⟩)
   |(rw[J6 (by assumption)];exact⟨_,rfl,(Below.refl _ _).alloc (Nat.le_refl _) _,.inr ⟨w.heap.size,rfl,ze.new _ _ _⟩⟩)
   |(rw[X0 (by assumption)];exact⟨_,rfl,(Below.refl _ _).alloc (Nat.le_refl _) _,.inr ⟨w.heap.size,rfl,ze.new _ _ _⟩⟩)
   |(rw[Jw (by assumption)];exact⟨_,rfl,(Below.refl _ _).alloc (Nat.le_refl _) _,.inr ⟨w.heap.size,rfl,ze.new _ _ _⟩⟩)
   |(rw[Xk (by assumption)];exact⟨_,rfl,(Below.refl _ _).alloc (Nat.le_refl _) _,.inr ⟨w.heap.size,rfl,ze.new _ _ _⟩⟩)
   |(rw[U7 (by assumption) (by assumption) (by assumption) (by assumption) (by assumption) (by assumption) (by assumption)];exact⟨_,rfl,Below.refl _ _,.inl ⟨rfl,rfl⟩⟩)
   |(exfalso;simp_all only[Bool.false_eq_true])
theorem dW(t:Tk)(q:Nat)(w:World):Calls Tryz.prog 113 #[.agg (qt t q)] w λe w'=>e= .returned (.bool (jl t))∧Below w.heap.size w w':=by
 have hr:=UH t.s;unfold jl;by_cases h0:t.kind=0
 ·have h1:((t.kind:Nat):Int)=0:=by omega
  cases e:Zy t.s
  all_goals
   rw[e]at hr;unfold qt;clear e;go_enter Tryz.func113,Tryz.ntmps113
   go_wp2_with (go_at_call 138;refine(hr _).mono ?_;rintro e w' ⟨rfl,rfl⟩)
   go_ret
   exact⟨by simp[h0],(Below.refl _ _).alloc (Nat.le_refl _) _⟩
 ·have h1:¬((t.kind:Nat):Int)=0:=by omega
  unfold qt;go_enter Tryz.func113,Tryz.ntmps113
  go_wp2
  go_ret
  exact⟨by simp[h0],(Below.refl _ _).alloc (Nat.le_refl _) _⟩
theorem UF(l:List (List UInt8))(x:List UInt8)(k:Nat)(h:k<l.length):(l.take (k+1)).any (λy=>x==y)=((l.take k).any (λy=>x==y)||(x==l[k])):=by
 rw[List.take_succ_eq_append_getElem h,List.any_append];simp
theorem DT(l:List (List UInt8))(x:List UInt8)(k:Nat)(h:k<l.length)(e:(x==l[k])=true):l.any (λy=>x==y)=true:=
 List.any_eq_true.2 ⟨_,List.getElem_mem h,e⟩
theorem dS(l:List (List UInt8))(x:List UInt8)(w:World)(v:Value)(h:xV w v l)(hl:l.length≤100):Calls Tryz.prog 159 #[v,.string (bs x)] w λe w'=>∃i:Int,e= .returned (.int .i64 i)∧decide (0≤i)=l.any (λy=>x==y)∧w'=w:=by
 have ht:=zx x;rcases h with⟨rfl,rfl⟩|⟨g,rfl,hH⟩
 ·go_enter Tryz.func159,Tryz.ntmps159
  go_wp2
  go_loop [8] (λz=>z= .int .i64 0) (λ_=>0)
  case atStart=>rfl
  case round =>
   subst hrel
   go_wp2
   go_ret
   exact⟨-1,rfl,by simp,rfl⟩
 ·obtain⟨n,hn⟩:∃n,n=l.length:=⟨_,rfl⟩
  have HN:Hid (n=l.length):=hn;have hn2:n≤100:=by omega
  rw[←hn];clear hn;go_enter Tryz.func159,Tryz.ntmps159
  go_wp2
  go_loop [8] (λz=>∃k:Nat,k≤n∧z= .int .i64 (k:Nat)∧(l.take k).any (λy=>x==y)=false) (λz=>n-(intOf z).toNat)
  case atStart=>exact⟨0,Nat.zero_le _,rfl,rfl⟩
  case round =>
   obtain⟨k,hk,rfl,hr⟩:=hrel;have HR:Hid ((l.take k).any (λy=>x==y)=false):=hr;clear hr;by_cases hlt:k<n
   ·have hlt':k<l.length:=by rw[←HN.out];exact hlt
    have h2:(k:Int)<(n:Int):=by omega
    have hc:w.cell? ⟨g,k,none⟩=some (.string (bs (l[k]'hlt'))):=by rw[hH.cell];simp[hlt']
    have ht2:=zx (l[k]'hlt');have hy:=DT l x k hlt';have hs:=UF l x k hlt';generalize l[k]'hlt'=y at hc ht2 hy hs;have HS:Hid ((l.take (k+1)).any (λy=>x==y)=((l.take k).any (λy=>x==y)||(x==y))):=hs;have HY:Hid ((x==y)=true→l.any (λy=>x==y)=true):=hy;clear hy hs hlt'
    cases e:(x==y)
    ·go_wp2
     go_round
     case rel=>exact⟨k+1,by omega,by go_num,by rw[HS.out,HR.out,e];rfl⟩
     case measure=>simp[intOf];omega
    ·go_wp2
     go_ret
     exact⟨_,rfl,by rw[HY.out e];simp,rfl⟩
   ·have hk2:k=n:=by omega
    subst hk2
    go_wp2
    go_ret
    refine⟨-1,rfl,?_,rfl⟩;have:=HR.out;rw[HN.out,List.take_length]at this;rw[this];rfl
theorem Qi(l:List (List UInt8))(x:List UInt8)(w:World)(v:Value)(h:xV w v l)(hl:l.length≤100):Calls Tryz.prog 142 #[v,.string (bs x)] w λe w'=>e= .returned (.bool (l.any (λy=>x==y)))∧w'=w:=by
 have hi:=dS l x w v h hl;go_enter Tryz.func142,Tryz.ntmps142
 go_wp2_with (go_at_call 159;refine hi.mono ?_;rintro e w' ⟨i,rfl,hd,rfl⟩)
 go_ret
 exact⟨zU (by rw[←hd]),rfl⟩
theorem zaz(x:List UInt8)(t:Tk)(q p:Nat)(w:World)(h:ze w p 9 #[.string (bs x)]):Calls Tryz.prog 151 #[.agg (qt t q),.pointer (some ⟨p,0,none⟩)] w λe w'=>e= .returned (.bool (qM x t))∧Below w.heap.size w w':=by
 have c0:=h.cell 0;have hl:=h.lt;have ht:=zx x;have ht2:=zx t.s;unfold qM;by_cases h0:t.kind=3
 ·have h1:((t.kind:Nat):Int)=3:=by omega
  unfold qt;go_enter Tryz.func151,Tryz.ntmps151
  go_wp2
  go_ret
  exact⟨zU (by simp[h0]),(Below.refl _ _).alloc (Nat.le_refl _) _⟩
 ·have h1:¬((t.kind:Nat):Int)=3:=by omega
  unfold qt;go_enter Tryz.func151,Tryz.ntmps151
  go_wp2
  go_ret
  exact⟨zU (by simp[h0]),(Below.refl _ _).alloc (Nat.le_refl _) _⟩
theorem zah(k:Nat)(t:Tk)(q p:Nat)(w:World)(h:ze w p 98 #[.int .i64 (k:Nat)]):Calls Tryz.prog 150 #[.agg (qt t q),.pointer (some ⟨p,0,none⟩)] w λe w'=>e= .returned (.bool (jS k t))∧Below w.heap.size w w':=by
 have c0:=h.cell 0;have hl:=h.lt;unfold jS;by_cases h0:t.kind=k
 ·have h1:((t.kind:Nat):Int)=(k:Int):=by omega
  unfold qt;go_enter Tryz.func150,Tryz.ntmps150
  go_wp2
  go_ret
  refine⟨zU ?_,(Below.refl _ _).alloc (Nat.le_refl _) _⟩;rw[Bool.eq_iff_iff];simp
  try omega
 ·have h1:¬((t.kind:Nat):Int)=(k:Int):=by omega
  unfold qt;go_enter Tryz.func150,Tryz.ntmps150
  go_wp2
  go_ret
  refine⟨zU ?_,(Below.refl _ _).alloc (Nat.le_refl _) _⟩;rw[Bool.eq_iff_iff];simp
  try omega
theorem zaX(l:List (List UInt8))(t:Tk)(q p:Nat)(w:World)(v:Value)(hs:xV w v l)(hl:l.length≤100)(h:ze w p 104 #[v]):Calls Tryz.prog 149 #[.agg (qt t q),.pointer (some ⟨p,0,none⟩)] w λe w'=>e= .returned (.bool (jD l t))∧Below w.heap.size w w':=by
 have c0:=h.cell 0;have hlt:=h.lt;obtain⟨A,L,C,rfl⟩:∃A L C,v= .slice A L C:=by rcases hs with⟨_,rfl⟩|⟨g,rfl,_⟩<;>exact⟨_,_,_,rfl⟩
 have hcn:=λW (hW:Below w.heap.size w W)=>Qi l t.s W _ (hs.below hW) hl
 unfold jD;by_cases h0:t.kind=0
 ·have h1:((t.kind:Nat):Int)=0:=by omega
  unfold qt;go_enter Tryz.func149,Tryz.ntmps149
  go_wp2_with (go_at_call 142;refine(hcn _ ((Below.refl _ _).alloc (Nat.le_refl _) _)).mono ?_;rintro e w' ⟨rfl,rfl⟩)
  go_ret
  exact⟨zU (by simp[h0]),(Below.refl _ _).alloc (Nat.le_refl _) _⟩
 ·have h1:¬((t.kind:Nat):Int)=0:=by omega
  unfold qt;go_enter Tryz.func149,Tryz.ntmps149
  go_wp2
  go_ret
  exact⟨zU (by simp[h0]),(Below.refl _ _).alloc (Nat.le_refl _) _⟩
theorem Fz(t:Tk)(q:Nat)(w:World):Calls Tryz.prog 152 #[.agg (qt t q)] w λe w'=>e= .returned (.bool (j6 t))∧Below w.heap.size w w':=by
 have hin:=Vo t.s;have hnm:=dW t q;unfold j6
 have hk:∃L,L=(kw (zr t.s).1).length∧L=(zr t.s).1.length:=⟨_,rfl,by simp[kw]⟩
 have hS:∀w v,xV w v (kw (zr t.s).1)→∃A C,v= .slice A (kw (zr t.s).1).length C:=by
  rintro w v (⟨h,rfl⟩|⟨g,rfl,_⟩)
  ·exact⟨none,0,by rw[h];rfl⟩
  ·exact⟨_,_,rfl⟩
 obtain⟨L,hL,hL2⟩:=hk;rw[←hL2];rw[←hL]at hS;have HL:Hid (L=(kw (zr t.s).1).length):=hL;clear hL hL2;have b1:∀ {w1 w2:World} {o:Obj},Below (w.alloc o).heap.size (w.alloc o) w1→Below w1.heap.size w1 w2→Below w.heap.size w w2:=λh1 h2=>(((Below.refl _ _).alloc (Nat.le_refl _) _).trans (h1.mono (by simp))).trans (h2.mono (by have:=h1.size;simp at this;omega))
 cases en:jl t
 ·rw[en]at hnm
  clear en;by_cases h0:t.kind=0
  ·obtain⟨K,S,N⟩:=t
   simp only at h0 hin HL;subst h0;have hnm':∀w,Calls Tryz.prog 113 #[.agg #[.int .i64 0,.string (bs S),.int .i64 (N:Nat),.int .i64 (q:Nat)]] w λe w'=>e= .returned (.bool false)∧Below w.heap.size w w':=hnm
   have hg:∀w R,Calls Tryz.prog 152 #[.agg #[.int .i64 0,.string (bs S),.int .i64 (N:Nat),.int .i64 (q:Nat)]] w R→Calls Tryz.prog 152 #[.agg (qt ⟨0,S,N⟩ q)] w R:=λw R h=>h
   refine hg _ _ ?_;clear hg hnm;by_cases hL0:0<L
   ·have hL1:(0:Int)<(L:Int):=by omega
    have hv:(false||((⟨0,S,N⟩:Tk).kind==0&&decide (0<L)))=true:=by simp[hL0]
    rw[hv];clear hv;go_enter Tryz.func152,Tryz.ntmps152
    go_wp2_with (first
     |(go_at_call 139;refine(hin _).mono ?_;rintro e w1 ⟨v,rfl,hb1,hs1⟩;obtain⟨A,C,rfl⟩:=hS _ _ hs1;have hh:=(ze.new w _ _).below hb1 (by simp);have c0:=hh.cell 0;have c1:=hh.cell 1;have c2:=hh.cell 2;have c3:=hh.cell 3)
     |(go_at_call 113;refine(hnm' _).mono ?_;rintro e w2 ⟨rfl,hb2⟩;have hh2:=hh.below hb2 hh.lt;have d0:=hh2.cell 0))
    go_ret
    exact⟨rfl,b1 hb1 hb2⟩
   ·have hL1:¬(0:Int)<(L:Int):=by omega
    have hv:(false||((⟨0,S,N⟩:Tk).kind==0&&decide (0<L)))=false:=by simp[hL0]
    rw[hv];clear hv;go_enter Tryz.func152,Tryz.ntmps152
    go_wp2_with (first
     |(go_at_call 139;refine(hin _).mono ?_;rintro e w1 ⟨v,rfl,hb1,hs1⟩;obtain⟨A,C,rfl⟩:=hS _ _ hs1;have hh:=(ze.new w _ _).below hb1 (by simp);have c0:=hh.cell 0;have c1:=hh.cell 1;have c2:=hh.cell 2;have c3:=hh.cell 3)
     |(go_at_call 113;refine(hnm' _).mono ?_;rintro e w2 ⟨rfl,hb2⟩;have hh2:=hh.below hb2 hh.lt;have d0:=hh2.cell 0))
    go_ret
    exact⟨rfl,b1 hb1 hb2⟩
  ·have h1:¬((t.kind:Nat):Int)=0:=by omega
   have hv:(false||(t.kind==0&&decide (0<L)))=false:=by simp[h0]
   rw[hv];clear hv;unfold qt at hnm ⊢;go_enter Tryz.func152,Tryz.ntmps152
   go_wp2_with (first
    |(go_at_call 139;refine(hin _).mono ?_;rintro e w1 ⟨v,rfl,hb1,hs1⟩;obtain⟨A,C,rfl⟩:=hS _ _ hs1;have hh:=(ze.new w _ _).below hb1 (by simp);have c0:=hh.cell 0;have c1:=hh.cell 1;have c2:=hh.cell 2;have c3:=hh.cell 3)
    |(go_at_call 113;refine(hnm _).mono ?_;rintro e w2 ⟨rfl,hb2⟩;have hh2:=hh.below hb2 hh.lt;have d0:=hh2.cell 0))
   go_ret
   exact⟨rfl,b1 hb1 hb2⟩
 ·rw[en]at hnm
  clear en;rw[Bool.true_or];unfold qt at hnm ⊢;go_enter Tryz.func152,Tryz.ntmps152
  go_wp2_with (first
   |(go_at_call 139;refine(hin _).mono ?_;rintro e w1 ⟨v,rfl,hb1,hs1⟩;obtain⟨A,C,rfl⟩:=hS _ _ hs1;have hh:=(ze.new w _ _).below hb1 (by simp);have c0:=hh.cell 0;have c1:=hh.cell 1;have c2:=hh.cell 2;have c3:=hh.cell 3)
   |(go_at_call 113;refine(hnm _).mono ?_;rintro e w2 ⟨rfl,hb2⟩))
  go_ret
  exact⟨rfl,b1 hb1 hb2⟩
theorem qE(a b:List UInt8):bs a++bs b=bs (a++b):=by
 apply ByteArray.ext;simp[bs]
theorem JQ(w:World)(l:List UInt8)(hm:l.length≤maxLen){er o:Nat}(h:j9 l= .error (er,o)):Calls Tryz.prog 35 #[.string (bs l)] w λe w'=>e= .returned (.tuple #[.slice none 0 0,.int .i64 (er:Nat),.int .i64 (o:Nat)])∧Below w.heap.size w w':=by
 have:=XI w l hm;rw[h]at this;exact this.mono λe w' hr=>⟨hr.2,hr.1⟩
theorem Yw(w:World)(l:List UInt8)(hm:l.length≤maxLen){ts:zo}(h:j9 l= .ok ts):Calls Tryz.prog 35 #[.string (bs l)] w λe w'=>∃A C,e= .returned (.tuple #[.slice A ts.length C,.int .i64 0,.int .i64 (-1)])∧Below w.heap.size w w'∧jE w' w.heap.size (.slice A ts.length C) ts:=by
 have:=XI w l hm;rw[h]at this;refine this.mono ?_;rintro e w' ⟨hb,v,rfl,hr⟩;obtain⟨A,C,rfl⟩:=QV hr;exact⟨A,C,rfl,hb,hr⟩
theorem zh{f:FuncId}{args:Array Value}{w:World}{R:Ending→World→Prop}(i:Nat)(v:Value)(h:args[i]?=some v)(k:Calls Tryz.prog f args w R):Calls Tryz.prog f args w R:=k
abbrev Kp(p:Nat)(w w':World):Prop:=w.grownBy w' (some p)
theorem Kp.refl(p:Nat)(w:World):Kp p w w:=⟨rfl,rfl,rfl,Nat.le_refl _,λ_ _ _=>rfl⟩
theorem Kp.trans{p:Nat}{a b c:World}(h:Kp p a b)(k:Kp p b c):Kp p a c:=
 ⟨k.os.trans h.os,k.tape.trans h.tape,k.output.trans h.output,Nat.le_trans h.size k.size,λi hi hn=>(k.block i (Nat.lt_of_lt_of_le hi h.size) hn).trans (h.block i hi hn)⟩
theorem Kp.of{p:Nat}{w w':World}(h:Below w.heap.size w w'):Kp p w w':=⟨h.os,h.tape,h.output,h.size,λi hi _=>h.block i hi⟩
theorem Kp.alloc{p:Nat}{w w':World}(h:Kp p w w')(o:Obj):Kp p w (w'.alloc o):=h.trans (Kp.of ((Below.refl _ _).alloc (Nat.le_refl _) o))
theorem Kp.below{p:Nat}{w w':World}(h:Kp p w w')(hp:p<w.heap.size):Below p w w':=⟨h.os,h.tape,h.output,h.size,λk hk=>h.block k (by omega) (λe=>by cases e;omega)⟩
theorem ze.kp{p:Nat}{w w':World}{g t:Nat}{cs:Array Value}(h:ze w g t cs)(hk:Kp p w w')(hne:g≠p):ze w' g t cs:=h.grown hk hne
def Y9(w:World)(g off:Nat)(ts:zo):Prop:=∀i (hi:i<ts.length) j,j<4→w.cell? ⟨g,off+i*4+j,none⟩=(qt ts[i].1 ts[i].2)[j]?
def jF(w:World)(p:Nat)(ts:zo)(en:Nat):Prop:=∃A C,ze w p 87 #[.slice A ts.length C,.int .i64 (en:Nat)]∧ts.length≤C∧C≤9223372036854775807∧ts.length≤500∧(ts≠ []→∃g off,A=some ⟨g,off,none⟩∧g<p∧Y9 w g off ts)
theorem jF.lt{w:World}{p en:Nat}{ts:zo}(h:jF w p ts en):p<w.heap.size:=by obtain⟨A,C,h,_⟩:=h;exact h.lt
theorem jF.len{w:World}{p en:Nat}{ts:zo}(h:jF w p ts en):ts.length≤500:=by obtain⟨A,C,_,_,_,h,_⟩:=h;exact h
theorem jF.below{w w':World}{p en:Nat}{ts:zo}(h:jF w p ts en)(hb:Below w.heap.size w w'):jF w' p ts en:=by
 obtain⟨A,C,hH,h1,h2,h3,h4⟩:=h;refine⟨A,C,hH.below hb hH.lt,h1,h2,h3,λhne=>?_⟩;obtain⟨g,off,e,hg,ht⟩:=h4 hne;have:=hH.lt;exact⟨g,off,e,hg,λi hi j hj=>(hb.cell (p:=⟨g,off+i*4+j,none⟩) (by show g<_;omega)).trans (ht i hi j hj)⟩
inductive Ja (w:World) (pb:Nat):Value→(Tk→Bool)→Prop where
 |nm:Ja w pb (.func (.func 113) #[] #[]) jl
 |be:Ja w pb (.func (.func 152) #[] #[]) j6
 |sg (q:Nat) (x:List UInt8):q≠pb→ze w q 9 #[.string (bs x)]→Ja w pb (.func (.func 151) #[] #[.pointer (some ⟨q,0,none⟩)]) (qM x)
 |ki (q k:Nat):q≠pb→ze w q 98 #[.int .i64 (k:Nat)]→Ja w pb (.func (.func 150) #[] #[.pointer (some ⟨q,0,none⟩)]) (jS k)
 |wd (q:Nat) (v:Value) (l:List (List UInt8)):q≠pb→ze w q 104 #[v]→xV w v l→v.ownBlock≠some pb→l.length≤100→Ja w pb (.func (.func 149) #[] #[.pointer (some ⟨q,0,none⟩)]) (jD l)
theorem xV.kp{p:Nat}{w w':World}{v:Value}{l:List (List UInt8)}(h:xV w v l)(hk:Kp p w w')(hne:v.ownBlock≠some p):xV w' v l:=by
 rcases h with h|⟨g,rfl,h⟩
 ·exact .inl h
 ·exact .inr ⟨g,rfl,h.kp hk (λe=>hne (by rw[←e];rfl))⟩
theorem Ja.kp{w w':World}{pb:Nat}{v:Value}{p:Tk→Bool}(h:Ja w pb v p)(hk:Kp pb w w'):Ja w' pb v p:=by
 cases h with
 |nm=>exact .nm
 |be=>exact .be
 |sg q x h1 h2=>exact .sg q x h1 (h2.kp hk h1)
 |ki q k h1 h2=>exact .ki q k h1 (h2.kp hk h1)
 |wd q v l h1 h2 h3 h4 h5=>exact .wd q v l h1 (h2.kp hk h1) (h3.kp hk h4) h4 h5
theorem uu{w:World}{p en:Nat}{ts:zo}(h:jF w p ts en):Calls Tryz.prog 148 #[.pointer (some ⟨p,0,none⟩)] w λe w'=>e= .returned (.int .i64 (yU en ts:Nat))∧w'=w:=by
 obtain⟨A,C,hH,h1,h2,h3,h4⟩:=h;have c0:=hH.cell 0;have c1:=hH.cell 1;cases ts with
 |nil =>
  simp only[yU];clear h4;go_enter Tryz.func148,Tryz.ntmps148
  go_wp2
  go_ret
  exact⟨rfl,rfl⟩
 |cons t r =>
  obtain⟨g,off,rfl,hg,ht⟩:=h4 (by simp);have d3:w.cell? ⟨g,off+3,none⟩=some (.int .i64 (t.2:Nat)):=by have:=ht 0 (by simp) 3 (by decide);simpa [qt]using this
  simp only[yU,List.length_cons]at *
  obtain⟨L,hL⟩:∃L,L=r.length:=⟨_,rfl⟩
  rw[←hL]at *;clear hL ht h4;go_enter Tryz.func148,Tryz.ntmps148
  go_wp2
  go_ret
  exact⟨rfl,rfl⟩
theorem JK{w:World}{pb en:Nat}{ts:zo}(h:jF w pb ts en){v:Value}{p:Tk→Bool}(ha:Ja w pb v p):Calls Tryz.prog 135 #[.pointer (some ⟨pb,0,none⟩),v] w λe w'=>e= .returned (.bool (qz p ts))∧Below w.heap.size w w':=by
 obtain⟨A,C,hH,h1,h2,h3,h4⟩:=h;have c0:=hH.cell 0;have c1:=hH.cell 1;cases ts with
 |nil =>
  simp only[qz];clear h4;cases ha
  all_goals
   go_enter Tryz.func135,Tryz.ntmps135
   go_wp2
   go_ret
   exact⟨rfl,Below.refl _ _⟩
 |cons t r =>
  obtain⟨g,off,rfl,hg,ht⟩:=h4 (by simp);have d0:w.cell? ⟨g,off,none⟩=some (.int .i64 (t.1.kind:Nat)):=by have:=ht 0 (by simp) 0 (by decide);simpa [qt]using this
  have d1:w.cell? ⟨g,off+1,none⟩=some (.string (bs t.1.s)):=by have:=ht 0 (by simp) 1 (by decide);simpa [qt]using this
  have d2:w.cell? ⟨g,off+2,none⟩=some (.int .i64 (t.1.n:Nat)):=by have:=ht 0 (by simp) 2 (by decide);simpa [qt]using this
  have d3:w.cell? ⟨g,off+3,none⟩=some (.int .i64 (t.2:Nat)):=by have:=ht 0 (by simp) 3 (by decide);simpa [qt]using this
  simp only[qz,List.length_cons]at *
  obtain⟨L,hL⟩:∃L,L=r.length:=⟨_,rfl⟩
  rw[←hL]at *;clear hL ht h4;cases ha with
  |nm =>
   have hc:=dW t.1 t.2 w;generalize jl t.1=B at hc ⊢;go_enter Tryz.func135,Tryz.ntmps135
   go_wp2_with (go_at_call 113;refine hc.mono ?_;rintro e w1 ⟨rfl,hb⟩)
   go_ret
   exact⟨rfl,hb⟩
  |be =>
   have hc:=Fz t.1 t.2 w;generalize j6 t.1=B at hc ⊢;go_enter Tryz.func135,Tryz.ntmps135
   go_wp2_with (go_at_call 152;refine hc.mono ?_;rintro e w1 ⟨rfl,hb⟩)
   go_ret
   exact⟨rfl,hb⟩
  |sg q x hq hx =>
   have hc:=zaz x t.1 t.2 q w hx;generalize qM x t.1=B at hc ⊢;go_enter Tryz.func135,Tryz.ntmps135
   go_wp2_with (go_at_call 151;refine hc.mono ?_;rintro e w1 ⟨rfl,hb⟩)
   go_ret
   exact⟨rfl,hb⟩
  |ki q k hq hx =>
   have hc:=zah k t.1 t.2 q w hx;generalize jS k t.1=B at hc ⊢;go_enter Tryz.func135,Tryz.ntmps135
   go_wp2_with (go_at_call 150;refine hc.mono ?_;rintro e w1 ⟨rfl,hb⟩)
   go_ret
   exact⟨rfl,hb⟩
  |wd q v l hq hx hs hv hl =>
   have hc:=zaX l t.1 t.2 q w v hs hl hx;generalize jD l t.1=B at hc ⊢;go_enter Tryz.func135,Tryz.ntmps135
   go_wp2_with (go_at_call 149;refine hc.mono ?_;rintro e w1 ⟨rfl,hb⟩)
   go_ret
   exact⟨rfl,hb⟩
end
end Go.Proofs.YtebcfkigbbolaaaGreatDoor
