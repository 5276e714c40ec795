import Derived.Test.YtgljdaakdpgpkaaGreatDoorJoint01
import Derived.Test.YtgljdaakdpgpkaaGreatDoorJoint00
import Derived.BigQuiet
import Derived.Deep.QuietTactic
namespace Go.Proofs.YtgljdaakdpgpkaaGreatDoor
set_option linter.unusedVariables false
set_option maxRecDepth 100000
set_option maxHeartbeats 40000000
section
open Go.ChangeShapes Go.WideShapes Go.ChangeAt Go.RowKit
theorem kH{w:World}{l:List UInt8}{i:Nat}(hi:i<l.length)(hl:l.length≤2000)(k1:zM l[i]=false)(k2:zl l[i]=true)(h:¬9<zv zl (l.drop i))(h0:zv zl (l.drop i)≠0)(hE:i+zv zl (l.drop i)<l.length)(k3:vR (l[i+zv zl (l.drop i)])=false):
 Calls Tryz.prog 102 #[.string (bs l),.int .i64 (i:Nat)] w (jD w i ⟨1,[],val ((l.drop i).take (zv zl (l.drop i)))⟩ (i+zv zl (l.drop i)) 0):=by
 have hsz:=zs l;have h1:i<(bs l).size:=by omega
 have h2:((i:Nat):Int)<((bs l).size:Int):=by omega
 have hi2:i≤2000:=by omega
 have hc1:zM ((bs l)[i]'h1)=false:=by rw[zA];exact k1
 have hs1:=qe ((bs l)[i]'h1);rw[hc1]at hs1;clear hc1 k1;have hc2:zl ((bs l)[i]'h1)=true:=by rw[zA];exact k2
 have hs2:=zY ((bs l)[i]'h1);rw[hc2]at hs2;clear hc2 k2;have hw:=Z4 (jS w l i i (i:Nat) 1 rfl (by omega)) hl h h0;have hH:=jR w l i (i:Nat) 1;have hR:=jQ w l i (i:Nat) 1
 obtain⟨J,hJ⟩:∃J,J=(i+zv zl (l.drop i)):=⟨_,rfl⟩
 rw[←hJ]at hw hE ⊢;have HJ:Hid (J=(i+zv zl (l.drop i))):=hJ;clear hJ;have hJ2:J≤2000:=by omega
 have b1:J<(bs l).size:=by rw[hsz];exact hE
 have b2:((J:Nat):Int)<((bs l).size:Int):=by omega
 have k3':vR ((bs l)[J]'b1)=false:=by rw[zA];have:=HJ.out;subst this;exact k3
 have hs3:=vv ((bs l)[J]'b1);rw[k3']at hs3;clear k3' k3 hE;have HS:Hid ((bs l).size=l.length):=hsz;clear hsz;go_enter Tryz.func102,Tryz.ntmps102
 go_wp2_with (first
  |(go_at_call 111;refine(qQ _ _ _).mono ?_;rintro e w' ⟨rfl,rfl⟩)
  |(go_at_call 115;refine(hs1 _).mono ?_;rintro e w' ⟨rfl,rfl⟩)
  |(go_at_call 117;refine(hs2 _).mono ?_;rintro e w' ⟨rfl,rfl⟩)
  |(go_at_call 120;refine(hs3 _).mono ?_;rintro e w' ⟨rfl,rfl⟩)
  |(go_at_call 118
    refine hw.mono ?_;rintro e w1 ⟨rfl,hA⟩;have hH1:=hA.other hH (by omega);have hR1:=hA.other hR (by omega);have c0:=hH1.cell 0;have c1:=hH1.cell 1;have c2:=hH1.cell 2;have c3:=hH1.cell 3;have f1:=hH1.free 1;have f2:=hH1.free 2;have hP:=hA.at_.cell 0;have r0:w1.cell? ⟨w.heap.size,0,none⟩=some (.int .i64 0):=hR1.cell 0;have r1:w1.cell? ⟨w.heap.size,1,none⟩=some (.string ⟨#[]⟩):=hR1.cell 1;have r2:w1.cell? ⟨w.heap.size,2,none⟩=some (.int .i64 0):=hR1.cell 2;have r3:w1.cell? ⟨w.heap.size,3,none⟩=some (.int .i64 0):=hR1.cell 3;have g0:=hR1.free 0;have g1:=hR1.free 1;have g2:=hR1.free 2
    have g3:=hR1.free 3))
 go_region
 all_goals
  go_wp2
  exact bodyPost_ret (v:= .tuple #[.agg (jy ⟨1,[],val ((l.drop i).take (zv zl (l.drop i)))⟩ i),.int .i64 ((J:Nat):Int),.int .i64 0]) (by simp[results,Tryz.results102,go_sem,jy,r0,r1,r2,r3,Jl]) rfl ⟨rfl,jt hA⟩
theorem XN{w:World}{l:List UInt8}{i:Nat}(hi:i<l.length)(hl:l.length≤2000)(k1:zM l[i]=false)(k2:zl l[i]=true)(h:¬9<zv zl (l.drop i))(h0:zv zl (l.drop i)≠0)(hE:i+zv zl (l.drop i)=l.length):
 Calls Tryz.prog 102 #[.string (bs l),.int .i64 (i:Nat)] w (jD w i ⟨1,[],val ((l.drop i).take (zv zl (l.drop i)))⟩ (i+zv zl (l.drop i)) 0):=by
 have hsz:=zs l;have h1:i<(bs l).size:=by omega
 have h2:((i:Nat):Int)<((bs l).size:Int):=by omega
 have hi2:i≤2000:=by omega
 have hc1:zM ((bs l)[i]'h1)=false:=by rw[zA];exact k1
 have hs1:=qe ((bs l)[i]'h1);rw[hc1]at hs1;clear hc1 k1;have hc2:zl ((bs l)[i]'h1)=true:=by rw[zA];exact k2
 have hs2:=zY ((bs l)[i]'h1);rw[hc2]at hs2;clear hc2 k2;have hw:=Z4 (jS w l i i (i:Nat) 1 rfl (by omega)) hl h h0;have hH:=jR w l i (i:Nat) 1;have hR:=jQ w l i (i:Nat) 1
 obtain⟨J,hJ⟩:∃J,J=(i+zv zl (l.drop i)):=⟨_,rfl⟩
 rw[←hJ]at hw hE ⊢;have HJ:Hid (J=(i+zv zl (l.drop i))):=hJ;clear hJ;have hJ2:J≤2000:=by omega
 have b2:¬((J:Nat):Int)<((bs l).size:Int):=by omega
 clear hE;have HS:Hid ((bs l).size=l.length):=hsz;clear hsz;go_enter Tryz.func102,Tryz.ntmps102
 go_wp2_with (first
  |(go_at_call 111;refine(qQ _ _ _).mono ?_;rintro e w' ⟨rfl,rfl⟩)
  |(go_at_call 115;refine(hs1 _).mono ?_;rintro e w' ⟨rfl,rfl⟩)
  |(go_at_call 117;refine(hs2 _).mono ?_;rintro e w' ⟨rfl,rfl⟩)
  |(go_at_call 120;refine(hs3 _).mono ?_;rintro e w' ⟨rfl,rfl⟩)
  |(go_at_call 118
    refine hw.mono ?_;rintro e w1 ⟨rfl,hA⟩;have hH1:=hA.other hH (by omega);have hR1:=hA.other hR (by omega);have c0:=hH1.cell 0;have c1:=hH1.cell 1;have c2:=hH1.cell 2;have c3:=hH1.cell 3;have f1:=hH1.free 1;have f2:=hH1.free 2;have hP:=hA.at_.cell 0;have r0:w1.cell? ⟨w.heap.size,0,none⟩=some (.int .i64 0):=hR1.cell 0;have r1:w1.cell? ⟨w.heap.size,1,none⟩=some (.string ⟨#[]⟩):=hR1.cell 1;have r2:w1.cell? ⟨w.heap.size,2,none⟩=some (.int .i64 0):=hR1.cell 2;have r3:w1.cell? ⟨w.heap.size,3,none⟩=some (.int .i64 0):=hR1.cell 3;have g0:=hR1.free 0;have g1:=hR1.free 1;have g2:=hR1.free 2
    have g3:=hR1.free 3))
 go_region
 all_goals
  go_wp2
  exact bodyPost_ret (v:= .tuple #[.agg (jy ⟨1,[],val ((l.drop i).take (zv zl (l.drop i)))⟩ i),.int .i64 ((J:Nat):Int),.int .i64 0]) (by simp[results,Tryz.results102,go_sem,jy,r0,r1,r2,r3,Jl]) rfl ⟨rfl,jt hA⟩
theorem Xr{w:World}{l:List UInt8}{i:Nat}(hi:i<l.length)(hl:l.length≤2000)(k1:zM l[i]=false)(k2:zl l[i]=true)(h:¬9<zv zl (l.drop i))(h0:zv zl (l.drop i)≠0)(hE:i+zv zl (l.drop i)<l.length)(k3:vR (l[i+zv zl (l.drop i)])=true):
 Calls Tryz.prog 102 #[.string (bs l),.int .i64 (i:Nat)] w (jD w i ⟨1,[],val ((l.drop i).take (zv zl (l.drop i)))⟩ (i+zv zl (l.drop i)) 101):=by
 have hsz:=zs l;have h1:i<(bs l).size:=by omega
 have h2:((i:Nat):Int)<((bs l).size:Int):=by omega
 have hi2:i≤2000:=by omega
 have hc1:zM ((bs l)[i]'h1)=false:=by rw[zA];exact k1
 have hs1:=qe ((bs l)[i]'h1);rw[hc1]at hs1;clear hc1 k1;have hc2:zl ((bs l)[i]'h1)=true:=by rw[zA];exact k2
 have hs2:=zY ((bs l)[i]'h1);rw[hc2]at hs2;clear hc2 k2;have hw:=Z4 (jS w l i i (i:Nat) 1 rfl (by omega)) hl h h0;have hH:=jR w l i (i:Nat) 1;have hR:=jQ w l i (i:Nat) 1
 obtain⟨J,hJ⟩:∃J,J=(i+zv zl (l.drop i)):=⟨_,rfl⟩
 rw[←hJ]at hw hE ⊢;have HJ:Hid (J=(i+zv zl (l.drop i))):=hJ;clear hJ;have hJ2:J≤2000:=by omega
 have b1:J<(bs l).size:=by rw[hsz];exact hE
 have b2:((J:Nat):Int)<((bs l).size:Int):=by omega
 have k3':vR ((bs l)[J]'b1)=true:=by rw[zA];have:=HJ.out;subst this;exact k3
 have hs3:=vv ((bs l)[J]'b1);rw[k3']at hs3;clear k3' k3 hE;have HS:Hid ((bs l).size=l.length):=hsz;clear hsz;go_enter Tryz.func102,Tryz.ntmps102
 go_wp2_with (first
  |(go_at_call 111;refine(qQ _ _ _).mono ?_;rintro e w' ⟨rfl,rfl⟩)
  |(go_at_call 115;refine(hs1 _).mono ?_;rintro e w' ⟨rfl,rfl⟩)
  |(go_at_call 117;refine(hs2 _).mono ?_;rintro e w' ⟨rfl,rfl⟩)
  |(go_at_call 120;refine(hs3 _).mono ?_;rintro e w' ⟨rfl,rfl⟩)
  |(go_at_call 118
    refine hw.mono ?_;rintro e w1 ⟨rfl,hA⟩;have hH1:=hA.other hH (by omega);have hR1:=hA.other hR (by omega);have c0:=hH1.cell 0;have c1:=hH1.cell 1;have c2:=hH1.cell 2;have c3:=hH1.cell 3;have f1:=hH1.free 1;have f2:=hH1.free 2;have hP:=hA.at_.cell 0;have r0:w1.cell? ⟨w.heap.size,0,none⟩=some (.int .i64 0):=hR1.cell 0;have r1:w1.cell? ⟨w.heap.size,1,none⟩=some (.string ⟨#[]⟩):=hR1.cell 1;have r2:w1.cell? ⟨w.heap.size,2,none⟩=some (.int .i64 0):=hR1.cell 2;have r3:w1.cell? ⟨w.heap.size,3,none⟩=some (.int .i64 0):=hR1.cell 3;have g0:=hR1.free 0;have g1:=hR1.free 1;have g2:=hR1.free 2
    have g3:=hR1.free 3))
 go_region
 all_goals
  go_wp2
  exact bodyPost_ret (v:= .tuple #[.agg (jy ⟨1,[],val ((l.drop i).take (zv zl (l.drop i)))⟩ i),.int .i64 ((J:Nat):Int),.int .i64 101]) (by simp[results,Tryz.results102,go_sem,jy,r0,r1,r2,r3,Jl]) rfl ⟨rfl,jt hA⟩
theorem XX{w:World}{l:List UInt8}{i:Nat}(hi:i<l.length)(hl:l.length≤2000)(k1:zM l[i]=false)(k2:zl l[i]=true)(h:9<zv zl (l.drop i)):
 Calls Tryz.prog 102 #[.string (bs l),.int .i64 (i:Nat)] w (jD w i ⟨1,[],0⟩ (i+zv zl (l.drop i)) 102):=by
 have hsz:=zs l;have h1:i<(bs l).size:=by omega
 have h2:((i:Nat):Int)<((bs l).size:Int):=by omega
 have hi2:i≤2000:=by omega
 have hc1:zM ((bs l)[i]'h1)=false:=by rw[zA];exact k1
 have hs1:=qe ((bs l)[i]'h1);rw[hc1]at hs1;clear hc1 k1;have hc2:zl ((bs l)[i]'h1)=true:=by rw[zA];exact k2
 have hs2:=zY ((bs l)[i]'h1);rw[hc2]at hs2;clear hc2 k2;have hw:=YU (jS w l i i (i:Nat) 1 rfl (by omega)) hl h;have hH:=jR w l i (i:Nat) 1;have hR:=jQ w l i (i:Nat) 1;have HS:Hid ((bs l).size=l.length):=hsz;clear hsz;go_enter Tryz.func102,Tryz.ntmps102
 go_wp2_with (first
  |(go_at_call 111;refine(qQ _ _ _).mono ?_;rintro e w' ⟨rfl,rfl⟩)
  |(go_at_call 115;refine(hs1 _).mono ?_;rintro e w' ⟨rfl,rfl⟩)
  |(go_at_call 117;refine(hs2 _).mono ?_;rintro e w' ⟨rfl,rfl⟩)
  |(go_at_call 118
    refine hw.mono ?_;rintro e w1 ⟨rfl,hA⟩;have hH1:=hA.other hH (by omega);have hR1:=hA.other hR (by omega);have c0:=hH1.cell 0;have c1:=hH1.cell 1;have c2:=hH1.cell 2;have c3:=hH1.cell 3;have f1:=hH1.free 1;have f2:=hH1.free 2;have hP:=hA.at_.cell 0;have r0:w1.cell? ⟨w.heap.size,0,none⟩=some (.int .i64 0):=hR1.cell 0;have r1:w1.cell? ⟨w.heap.size,1,none⟩=some (.string ⟨#[]⟩):=hR1.cell 1;have r2:w1.cell? ⟨w.heap.size,2,none⟩=some (.int .i64 0):=hR1.cell 2;have r3:w1.cell? ⟨w.heap.size,3,none⟩=some (.int .i64 0):=hR1.cell 3;have g0:=hR1.free 0;have g1:=hR1.free 1;have g2:=hR1.free 2
    have g3:=hR1.free 3))
 go_region
 all_goals
  go_wp2
  exact bodyPost_ret (v:= .tuple #[.agg (jy ⟨1,[],0⟩ i),.int .i64 (((i+zv zl (l.drop i)):Nat):Int),.int .i64 102]) (by simp[results,Tryz.results102,go_sem,jy,r0,r1,r2,r3,Jl]) rfl ⟨rfl,jt hA⟩
theorem Uj{w:World}{l:List UInt8}{i:Nat}(hi:i<l.length)(hl:l.length≤2000)(k4:l[i]=36)(h0:zv zo (l.drop (i+1))≠0)(h:¬128<zv zo (l.drop (i+1)))(hE:i+1+zv zo (l.drop (i+1))<l.length)(k3:vR (l[i+1+zv zo (l.drop (i+1))])=false):
 Calls Tryz.prog 102 #[.string (bs l),.int .i64 (i:Nat)] w (jD w i ⟨2,(l.drop (i+1)).take (zv zo (l.drop (i+1))),0⟩ (i+1+zv zo (l.drop (i+1))) 0):=by
 have hsz:=zs l;have h1:i<(bs l).size:=by omega
 have h2:((i:Nat):Int)<((bs l).size:Int):=by omega
 have hi2:i≤2000:=by omega
 have k4':(bs l)[i]'h1=36:=by rw[zA];exact k4
 have k1:zM ((bs l)[i]'h1)=false:=by rw[k4'];decide
 have k2:zl ((bs l)[i]'h1)=false:=by rw[k4'];decide
 have hs1:=qe ((bs l)[i]'h1);rw[k1]at hs1;have hs2:=zY ((bs l)[i]'h1);rw[k2]at hs2;have hv:((((bs l)[i]'h1).toNat:Nat):Int)=36:=by rw[k4'];rfl
 rw[hv]at hs1 hs2;clear k1 k2 k4 k4';have hw:=XL (jS w l i (i+1) ((i:Nat)+1) 2 (by simp) (by omega)) hl h0 h;have hH:=jR w l i ((i:Nat)+1) 2;have hR:=jQ w l i ((i:Nat)+1) 2
 obtain⟨J,hJ⟩:∃J,J=(i+1+zv zo (l.drop (i+1))):=⟨_,rfl⟩
 rw[←hJ]at hw hE ⊢;have HJ:Hid (J=(i+1+zv zo (l.drop (i+1)))):=hJ;clear hJ;have hJ2:J≤2000:=by omega
 have b1:J<(bs l).size:=by rw[hsz];exact hE
 have b2:((J:Nat):Int)<((bs l).size:Int):=by omega
 have k3':vR ((bs l)[J]'b1)=false:=by rw[zA];have:=HJ.out;subst this;exact k3
 have hs3:=vv ((bs l)[J]'b1);rw[k3']at hs3;clear k3' k3 hE;have HS:Hid ((bs l).size=l.length):=hsz;clear hsz;go_enter Tryz.func102,Tryz.ntmps102
 go_wp2_with (first
  |(go_at_call 111;refine(qQ _ _ _).mono ?_;rintro e w' ⟨rfl,rfl⟩)
  |(go_at_call 115;refine(hs1 _).mono ?_;rintro e w' ⟨rfl,rfl⟩)
  |(go_at_call 117;refine(hs2 _).mono ?_;rintro e w' ⟨rfl,rfl⟩)
  |(go_at_call 120;refine(hs3 _).mono ?_;rintro e w' ⟨rfl,rfl⟩)
  |(go_at_call 119
    refine hw.mono ?_;rintro e w1 ⟨rfl,hA⟩;have hH1:=hA.other hH (by omega);have hR1:=hA.other hR (by omega);have c0:=hH1.cell 0;have c1:=hH1.cell 1;have c2:=hH1.cell 2;have c3:=hH1.cell 3;have f1:=hH1.free 1;have f2:=hH1.free 2;have hP:=hA.at_.cell 0;have r0:w1.cell? ⟨w.heap.size,0,none⟩=some (.int .i64 0):=hR1.cell 0;have r1:w1.cell? ⟨w.heap.size,1,none⟩=some (.string ⟨#[]⟩):=hR1.cell 1;have r2:w1.cell? ⟨w.heap.size,2,none⟩=some (.int .i64 0):=hR1.cell 2;have r3:w1.cell? ⟨w.heap.size,3,none⟩=some (.int .i64 0):=hR1.cell 3;have g0:=hR1.free 0;have g1:=hR1.free 1;have g2:=hR1.free 2
    have g3:=hR1.free 3))
 go_region
 all_goals
  go_wp2
  exact bodyPost_ret (v:= .tuple #[.agg (jy ⟨2,(l.drop (i+1)).take (zv zo (l.drop (i+1))),0⟩ i),.int .i64 ((J:Nat):Int),.int .i64 0]) (by simp[results,Tryz.results102,go_sem,jy,r0,r1,r2,r3]) rfl ⟨rfl,jt hA⟩
theorem Kq{w:World}{l:List UInt8}{i:Nat}(hi:i<l.length)(hl:l.length≤2000)(k4:l[i]=36)(h0:zv zo (l.drop (i+1))≠0)(h:¬128<zv zo (l.drop (i+1)))(hE:i+1+zv zo (l.drop (i+1))=l.length):
 Calls Tryz.prog 102 #[.string (bs l),.int .i64 (i:Nat)] w (jD w i ⟨2,(l.drop (i+1)).take (zv zo (l.drop (i+1))),0⟩ (i+1+zv zo (l.drop (i+1))) 0):=by
 have hsz:=zs l;have h1:i<(bs l).size:=by omega
 have h2:((i:Nat):Int)<((bs l).size:Int):=by omega
 have hi2:i≤2000:=by omega
 have k4':(bs l)[i]'h1=36:=by rw[zA];exact k4
 have k1:zM ((bs l)[i]'h1)=false:=by rw[k4'];decide
 have k2:zl ((bs l)[i]'h1)=false:=by rw[k4'];decide
 have hs1:=qe ((bs l)[i]'h1);rw[k1]at hs1;have hs2:=zY ((bs l)[i]'h1);rw[k2]at hs2;have hv:((((bs l)[i]'h1).toNat:Nat):Int)=36:=by rw[k4'];rfl
 rw[hv]at hs1 hs2;clear k1 k2 k4 k4';have hw:=XL (jS w l i (i+1) ((i:Nat)+1) 2 (by simp) (by omega)) hl h0 h;have hH:=jR w l i ((i:Nat)+1) 2;have hR:=jQ w l i ((i:Nat)+1) 2
 obtain⟨J,hJ⟩:∃J,J=(i+1+zv zo (l.drop (i+1))):=⟨_,rfl⟩
 rw[←hJ]at hw hE ⊢;have HJ:Hid (J=(i+1+zv zo (l.drop (i+1)))):=hJ;clear hJ;have hJ2:J≤2000:=by omega
 have b2:¬((J:Nat):Int)<((bs l).size:Int):=by omega
 clear hE;have HS:Hid ((bs l).size=l.length):=hsz;clear hsz;go_enter Tryz.func102,Tryz.ntmps102
 go_wp2_with (first
  |(go_at_call 111;refine(qQ _ _ _).mono ?_;rintro e w' ⟨rfl,rfl⟩)
  |(go_at_call 115;refine(hs1 _).mono ?_;rintro e w' ⟨rfl,rfl⟩)
  |(go_at_call 117;refine(hs2 _).mono ?_;rintro e w' ⟨rfl,rfl⟩)
  |(go_at_call 120;refine(hs3 _).mono ?_;rintro e w' ⟨rfl,rfl⟩)
  |(go_at_call 119
    refine hw.mono ?_;rintro e w1 ⟨rfl,hA⟩;have hH1:=hA.other hH (by omega);have hR1:=hA.other hR (by omega);have c0:=hH1.cell 0;have c1:=hH1.cell 1;have c2:=hH1.cell 2;have c3:=hH1.cell 3;have f1:=hH1.free 1;have f2:=hH1.free 2;have hP:=hA.at_.cell 0;have r0:w1.cell? ⟨w.heap.size,0,none⟩=some (.int .i64 0):=hR1.cell 0;have r1:w1.cell? ⟨w.heap.size,1,none⟩=some (.string ⟨#[]⟩):=hR1.cell 1;have r2:w1.cell? ⟨w.heap.size,2,none⟩=some (.int .i64 0):=hR1.cell 2;have r3:w1.cell? ⟨w.heap.size,3,none⟩=some (.int .i64 0):=hR1.cell 3;have g0:=hR1.free 0;have g1:=hR1.free 1;have g2:=hR1.free 2
    have g3:=hR1.free 3))
 go_region
 all_goals
  go_wp2
  exact bodyPost_ret (v:= .tuple #[.agg (jy ⟨2,(l.drop (i+1)).take (zv zo (l.drop (i+1))),0⟩ i),.int .i64 ((J:Nat):Int),.int .i64 0]) (by simp[results,Tryz.results102,go_sem,jy,r0,r1,r2,r3]) rfl ⟨rfl,jt hA⟩
theorem Kc{w:World}{l:List UInt8}{i:Nat}(hi:i<l.length)(hl:l.length≤2000)(k4:l[i]=36)(h0:zv zo (l.drop (i+1))≠0)(h:¬128<zv zo (l.drop (i+1)))(hE:i+1+zv zo (l.drop (i+1))<l.length)(k3:vR (l[i+1+zv zo (l.drop (i+1))])=true):
 Calls Tryz.prog 102 #[.string (bs l),.int .i64 (i:Nat)] w (jD w i ⟨2,(l.drop (i+1)).take (zv zo (l.drop (i+1))),0⟩ (i+1+zv zo (l.drop (i+1))) 101):=by
 have hsz:=zs l;have h1:i<(bs l).size:=by omega
 have h2:((i:Nat):Int)<((bs l).size:Int):=by omega
 have hi2:i≤2000:=by omega
 have k4':(bs l)[i]'h1=36:=by rw[zA];exact k4
 have k1:zM ((bs l)[i]'h1)=false:=by rw[k4'];decide
 have k2:zl ((bs l)[i]'h1)=false:=by rw[k4'];decide
 have hs1:=qe ((bs l)[i]'h1);rw[k1]at hs1;have hs2:=zY ((bs l)[i]'h1);rw[k2]at hs2;have hv:((((bs l)[i]'h1).toNat:Nat):Int)=36:=by rw[k4'];rfl
 rw[hv]at hs1 hs2;clear k1 k2 k4 k4';have hw:=XL (jS w l i (i+1) ((i:Nat)+1) 2 (by simp) (by omega)) hl h0 h;have hH:=jR w l i ((i:Nat)+1) 2;have hR:=jQ w l i ((i:Nat)+1) 2
 obtain⟨J,hJ⟩:∃J,J=(i+1+zv zo (l.drop (i+1))):=⟨_,rfl⟩
 rw[←hJ]at hw hE ⊢;have HJ:Hid (J=(i+1+zv zo (l.drop (i+1)))):=hJ;clear hJ;have hJ2:J≤2000:=by omega
 have b1:J<(bs l).size:=by rw[hsz];exact hE
 have b2:((J:Nat):Int)<((bs l).size:Int):=by omega
 have k3':vR ((bs l)[J]'b1)=true:=by rw[zA];have:=HJ.out;subst this;exact k3
 have hs3:=vv ((bs l)[J]'b1);rw[k3']at hs3;clear k3' k3 hE;have HS:Hid ((bs l).size=l.length):=hsz;clear hsz;go_enter Tryz.func102,Tryz.ntmps102
 go_wp2_with (first
  |(go_at_call 111;refine(qQ _ _ _).mono ?_;rintro e w' ⟨rfl,rfl⟩)
  |(go_at_call 115;refine(hs1 _).mono ?_;rintro e w' ⟨rfl,rfl⟩)
  |(go_at_call 117;refine(hs2 _).mono ?_;rintro e w' ⟨rfl,rfl⟩)
  |(go_at_call 120;refine(hs3 _).mono ?_;rintro e w' ⟨rfl,rfl⟩)
  |(go_at_call 119
    refine hw.mono ?_;rintro e w1 ⟨rfl,hA⟩;have hH1:=hA.other hH (by omega);have hR1:=hA.other hR (by omega);have c0:=hH1.cell 0;have c1:=hH1.cell 1;have c2:=hH1.cell 2;have c3:=hH1.cell 3;have f1:=hH1.free 1;have f2:=hH1.free 2;have hP:=hA.at_.cell 0;have r0:w1.cell? ⟨w.heap.size,0,none⟩=some (.int .i64 0):=hR1.cell 0;have r1:w1.cell? ⟨w.heap.size,1,none⟩=some (.string ⟨#[]⟩):=hR1.cell 1;have r2:w1.cell? ⟨w.heap.size,2,none⟩=some (.int .i64 0):=hR1.cell 2;have r3:w1.cell? ⟨w.heap.size,3,none⟩=some (.int .i64 0):=hR1.cell 3;have g0:=hR1.free 0;have g1:=hR1.free 1;have g2:=hR1.free 2
    have g3:=hR1.free 3))
 go_region
 all_goals
  go_wp2
  exact bodyPost_ret (v:= .tuple #[.agg (jy ⟨2,(l.drop (i+1)).take (zv zo (l.drop (i+1))),0⟩ i),.int .i64 ((J:Nat):Int),.int .i64 101]) (by simp[results,Tryz.results102,go_sem,jy,r0,r1,r2,r3]) rfl ⟨rfl,jt hA⟩
theorem Kj{w:World}{l:List UInt8}{i:Nat}(hi:i<l.length)(hl:l.length≤2000)(k4:l[i]=36)(h:128<zv zo (l.drop (i+1))):
 Calls Tryz.prog 102 #[.string (bs l),.int .i64 (i:Nat)] w (jD w i ⟨2,[],0⟩ (i+1+zv zo (l.drop (i+1))) 102):=by
 have hsz:=zs l;have h1:i<(bs l).size:=by omega
 have h2:((i:Nat):Int)<((bs l).size:Int):=by omega
 have hi2:i≤2000:=by omega
 have k4':(bs l)[i]'h1=36:=by rw[zA];exact k4
 have k1:zM ((bs l)[i]'h1)=false:=by rw[k4'];decide
 have k2:zl ((bs l)[i]'h1)=false:=by rw[k4'];decide
 have hs1:=qe ((bs l)[i]'h1);rw[k1]at hs1;have hs2:=zY ((bs l)[i]'h1);rw[k2]at hs2;have hv:((((bs l)[i]'h1).toNat:Nat):Int)=36:=by rw[k4'];rfl
 rw[hv]at hs1 hs2;clear k1 k2 k4 k4';have hw:=uZ (jS w l i (i+1) ((i:Nat)+1) 2 (by simp) (by omega)) hl h;have hH:=jR w l i ((i:Nat)+1) 2;have hR:=jQ w l i ((i:Nat)+1) 2;have HS:Hid ((bs l).size=l.length):=hsz;clear hsz;go_enter Tryz.func102,Tryz.ntmps102
 go_wp2_with (first
  |(go_at_call 111;refine(qQ _ _ _).mono ?_;rintro e w' ⟨rfl,rfl⟩)
  |(go_at_call 115;refine(hs1 _).mono ?_;rintro e w' ⟨rfl,rfl⟩)
  |(go_at_call 117;refine(hs2 _).mono ?_;rintro e w' ⟨rfl,rfl⟩)
  |(go_at_call 119
    refine hw.mono ?_;rintro e w1 ⟨rfl,hA⟩;have hH1:=hA.other hH (by omega);have hR1:=hA.other hR (by omega);have c0:=hH1.cell 0;have c1:=hH1.cell 1;have c2:=hH1.cell 2;have c3:=hH1.cell 3;have f1:=hH1.free 1;have f2:=hH1.free 2;have hP:=hA.at_.cell 0;have r0:w1.cell? ⟨w.heap.size,0,none⟩=some (.int .i64 0):=hR1.cell 0;have r1:w1.cell? ⟨w.heap.size,1,none⟩=some (.string ⟨#[]⟩):=hR1.cell 1;have r2:w1.cell? ⟨w.heap.size,2,none⟩=some (.int .i64 0):=hR1.cell 2;have r3:w1.cell? ⟨w.heap.size,3,none⟩=some (.int .i64 0):=hR1.cell 3;have g0:=hR1.free 0;have g1:=hR1.free 1;have g2:=hR1.free 2
    have g3:=hR1.free 3))
 go_region
 all_goals
  go_wp2
  exact bodyPost_ret (v:= .tuple #[.agg (jy ⟨2,[],0⟩ i),.int .i64 (((i+1+zv zo (l.drop (i+1))):Nat):Int),.int .i64 102]) (by simp[results,Tryz.results102,go_sem,jy,r0,r1,r2,r3]) rfl ⟨rfl,jt hA⟩
theorem Kz{w:World}{l:List UInt8}{i:Nat}(hi:i<l.length)(hl:l.length≤2000)(k4:l[i]=36)(h:zv zo (l.drop (i+1))=0):
 Calls Tryz.prog 102 #[.string (bs l),.int .i64 (i:Nat)] w (jD w i ⟨2,[],0⟩ (i+1) 101):=by
 have hsz:=zs l;have h1:i<(bs l).size:=by omega
 have h2:((i:Nat):Int)<((bs l).size:Int):=by omega
 have hi2:i≤2000:=by omega
 have k4':(bs l)[i]'h1=36:=by rw[zA];exact k4
 have k1:zM ((bs l)[i]'h1)=false:=by rw[k4'];decide
 have k2:zl ((bs l)[i]'h1)=false:=by rw[k4'];decide
 have hs1:=qe ((bs l)[i]'h1);rw[k1]at hs1;have hs2:=zY ((bs l)[i]'h1);rw[k2]at hs2;have hv:((((bs l)[i]'h1).toNat:Nat):Int)=36:=by rw[k4'];rfl
 rw[hv]at hs1 hs2;clear k1 k2 k4 k4';have hw:=U3 (jS w l i (i+1) ((i:Nat)+1) 2 (by simp) (by omega)) hl h;have hH:=jR w l i ((i:Nat)+1) 2;have hR:=jQ w l i ((i:Nat)+1) 2;rw[h,Nat.add_zero]at hw;have HS:Hid ((bs l).size=l.length):=hsz;clear hsz;go_enter Tryz.func102,Tryz.ntmps102
 go_wp2_with (first
  |(go_at_call 111;refine(qQ _ _ _).mono ?_;rintro e w' ⟨rfl,rfl⟩)
  |(go_at_call 115;refine(hs1 _).mono ?_;rintro e w' ⟨rfl,rfl⟩)
  |(go_at_call 117;refine(hs2 _).mono ?_;rintro e w' ⟨rfl,rfl⟩)
  |(go_at_call 119
    refine hw.mono ?_;rintro e w1 ⟨rfl,hA⟩;have hH1:=hA.other hH (by omega);have hR1:=hA.other hR (by omega);have c0:=hH1.cell 0;have c1:=hH1.cell 1;have c2:=hH1.cell 2;have c3:=hH1.cell 3;have f1:=hH1.free 1;have f2:=hH1.free 2;have hP:=hA.at_.cell 0;have r0:w1.cell? ⟨w.heap.size,0,none⟩=some (.int .i64 0):=hR1.cell 0;have r1:w1.cell? ⟨w.heap.size,1,none⟩=some (.string ⟨#[]⟩):=hR1.cell 1;have r2:w1.cell? ⟨w.heap.size,2,none⟩=some (.int .i64 0):=hR1.cell 2;have r3:w1.cell? ⟨w.heap.size,3,none⟩=some (.int .i64 0):=hR1.cell 3;have g0:=hR1.free 0;have g1:=hR1.free 1;have g2:=hR1.free 2
    have g3:=hR1.free 3))
 go_region
 all_goals
  go_wp2
  exact bodyPost_ret (v:= .tuple #[.agg (jy ⟨2,[],0⟩ i),.int .i64 (((i+1):Nat):Int),.int .i64 101]) (by simp[results,Tryz.results102,go_sem,jy,r0,r1,r2,r3]) rfl ⟨rfl,jt hA⟩
theorem VT{w:World}{l:List UInt8}{i:Nat}(hi:i<l.length)(hl:l.length≤2000)(k4:l[i]=40):
 Calls Tryz.prog 102 #[.string (bs l),.int .i64 (i:Nat)] w (jD w i ⟨3,[40],0⟩ (i+1) 0):=by
 have hsz:=zs l;have h1:i<(bs l).size:=by omega
 have h2:((i:Nat):Int)<((bs l).size:Int):=by omega
 have hi2:i≤2000:=by omega
 have k4':(bs l)[i]'h1=40:=by rw[zA];exact k4
 have k1:zM ((bs l)[i]'h1)=false:=by rw[k4'];decide
 have k2:zl ((bs l)[i]'h1)=false:=by rw[k4'];decide
 have hs1:=qe ((bs l)[i]'h1);rw[k1]at hs1;have hs2:=zY ((bs l)[i]'h1);rw[k2]at hs2;have hv:((((bs l)[i]'h1).toNat:Nat):Int)=40:=by rw[k4'];rfl
 rw[hv]at hs1 hs2
 have hx:(bs l).extract i (i+1)=bs [40]:=by
  rw[qq,List.drop_eq_getElem_cons hi,k4,Nat.add_sub_cancel_left];rfl
 have hb1:((i:Nat):Int)+1≤((bs l).size:Int):=by omega
 clear k1 k2 k4 k4';have HS:Hid ((bs l).size=l.length):=hsz;clear hsz;go_enter Tryz.func102,Tryz.ntmps102
 go_wp2_with (first
  |(go_at_call 111;refine(qQ _ _ _).mono ?_;rintro e w' ⟨rfl,rfl⟩)
  |(go_at_call 115;refine(hs1 _).mono ?_;rintro e w' ⟨rfl,rfl⟩)
  |(go_at_call 117;refine(hs2 _).mono ?_;rintro e w' ⟨rfl,rfl⟩))
 go_region
 all_goals
  go_wp2
  exact bodyPost_ret (v:= .tuple #[.agg (jy ⟨3,[40],0⟩ i),.int .i64 (((i+1):Nat):Int),.int .i64 0]) (by simp[results,Tryz.results102,go_sem,jy]) rfl ⟨rfl,yu _⟩
theorem VE{w:World}{l:List UInt8}{i:Nat}(hi:i<l.length)(hl:l.length≤2000)(k4:l[i]=41):
 Calls Tryz.prog 102 #[.string (bs l),.int .i64 (i:Nat)] w (jD w i ⟨3,[41],0⟩ (i+1) 0):=by
 have hsz:=zs l;have h1:i<(bs l).size:=by omega
 have h2:((i:Nat):Int)<((bs l).size:Int):=by omega
 have hi2:i≤2000:=by omega
 have k4':(bs l)[i]'h1=41:=by rw[zA];exact k4
 have k1:zM ((bs l)[i]'h1)=false:=by rw[k4'];decide
 have k2:zl ((bs l)[i]'h1)=false:=by rw[k4'];decide
 have hs1:=qe ((bs l)[i]'h1);rw[k1]at hs1;have hs2:=zY ((bs l)[i]'h1);rw[k2]at hs2;have hv:((((bs l)[i]'h1).toNat:Nat):Int)=41:=by rw[k4'];rfl
 rw[hv]at hs1 hs2
 have hx:(bs l).extract i (i+1)=bs [41]:=by
  rw[qq,List.drop_eq_getElem_cons hi,k4,Nat.add_sub_cancel_left];rfl
 have hb1:((i:Nat):Int)+1≤((bs l).size:Int):=by omega
 clear k1 k2 k4 k4';have HS:Hid ((bs l).size=l.length):=hsz;clear hsz;go_enter Tryz.func102,Tryz.ntmps102
 go_wp2_with (first
  |(go_at_call 111;refine(qQ _ _ _).mono ?_;rintro e w' ⟨rfl,rfl⟩)
  |(go_at_call 115;refine(hs1 _).mono ?_;rintro e w' ⟨rfl,rfl⟩)
  |(go_at_call 117;refine(hs2 _).mono ?_;rintro e w' ⟨rfl,rfl⟩))
 go_region
 all_goals
  go_wp2
  exact bodyPost_ret (v:= .tuple #[.agg (jy ⟨3,[41],0⟩ i),.int .i64 (((i+1):Nat):Int),.int .i64 0]) (by simp[results,Tryz.results102,go_sem,jy]) rfl ⟨rfl,yu _⟩
theorem VW{w:World}{l:List UInt8}{i:Nat}(hi:i<l.length)(hl:l.length≤2000)(k4:l[i]=44):
 Calls Tryz.prog 102 #[.string (bs l),.int .i64 (i:Nat)] w (jD w i ⟨3,[44],0⟩ (i+1) 0):=by
 have hsz:=zs l;have h1:i<(bs l).size:=by omega
 have h2:((i:Nat):Int)<((bs l).size:Int):=by omega
 have hi2:i≤2000:=by omega
 have k4':(bs l)[i]'h1=44:=by rw[zA];exact k4
 have k1:zM ((bs l)[i]'h1)=false:=by rw[k4'];decide
 have k2:zl ((bs l)[i]'h1)=false:=by rw[k4'];decide
 have hs1:=qe ((bs l)[i]'h1);rw[k1]at hs1;have hs2:=zY ((bs l)[i]'h1);rw[k2]at hs2;have hv:((((bs l)[i]'h1).toNat:Nat):Int)=44:=by rw[k4'];rfl
 rw[hv]at hs1 hs2
 have hx:(bs l).extract i (i+1)=bs [44]:=by
  rw[qq,List.drop_eq_getElem_cons hi,k4,Nat.add_sub_cancel_left];rfl
 have hb1:((i:Nat):Int)+1≤((bs l).size:Int):=by omega
 clear k1 k2 k4 k4';have HS:Hid ((bs l).size=l.length):=hsz;clear hsz;go_enter Tryz.func102,Tryz.ntmps102
 go_wp2_with (first
  |(go_at_call 111;refine(qQ _ _ _).mono ?_;rintro e w' ⟨rfl,rfl⟩)
  |(go_at_call 115;refine(hs1 _).mono ?_;rintro e w' ⟨rfl,rfl⟩)
  |(go_at_call 117;refine(hs2 _).mono ?_;rintro e w' ⟨rfl,rfl⟩))
 go_region
 all_goals
  go_wp2
  exact bodyPost_ret (v:= .tuple #[.agg (jy ⟨3,[44],0⟩ i),.int .i64 (((i+1):Nat):Int),.int .i64 0]) (by simp[results,Tryz.results102,go_sem,jy]) rfl ⟨rfl,yu _⟩
theorem Vc{w:World}{l:List UInt8}{i:Nat}(hi:i<l.length)(hl:l.length≤2000)(k4:l[i]=61):
 Calls Tryz.prog 102 #[.string (bs l),.int .i64 (i:Nat)] w (jD w i ⟨3,[61],0⟩ (i+1) 0):=by
 have hsz:=zs l;have h1:i<(bs l).size:=by omega
 have h2:((i:Nat):Int)<((bs l).size:Int):=by omega
 have hi2:i≤2000:=by omega
 have k4':(bs l)[i]'h1=61:=by rw[zA];exact k4
 have k1:zM ((bs l)[i]'h1)=false:=by rw[k4'];decide
 have k2:zl ((bs l)[i]'h1)=false:=by rw[k4'];decide
 have hs1:=qe ((bs l)[i]'h1);rw[k1]at hs1;have hs2:=zY ((bs l)[i]'h1);rw[k2]at hs2;have hv:((((bs l)[i]'h1).toNat:Nat):Int)=61:=by rw[k4'];rfl
 rw[hv]at hs1 hs2
 have hx:(bs l).extract i (i+1)=bs [61]:=by
  rw[qq,List.drop_eq_getElem_cons hi,k4,Nat.add_sub_cancel_left];rfl
 have hb1:((i:Nat):Int)+1≤((bs l).size:Int):=by omega
 clear k1 k2 k4 k4';have HS:Hid ((bs l).size=l.length):=hsz;clear hsz;go_enter Tryz.func102,Tryz.ntmps102
 go_wp2_with (first
  |(go_at_call 111;refine(qQ _ _ _).mono ?_;rintro e w' ⟨rfl,rfl⟩)
  |(go_at_call 115;refine(hs1 _).mono ?_;rintro e w' ⟨rfl,rfl⟩)
  |(go_at_call 117;refine(hs2 _).mono ?_;rintro e w' ⟨rfl,rfl⟩))
 go_region
 all_goals
  go_wp2
  exact bodyPost_ret (v:= .tuple #[.agg (jy ⟨3,[61],0⟩ i),.int .i64 (((i+1):Nat):Int),.int .i64 0]) (by simp[results,Tryz.results102,go_sem,jy]) rfl ⟨rfl,yu _⟩
theorem Vp{w:World}{l:List UInt8}{i:Nat}(hi:i<l.length)(hl:l.length≤2000)(k4:l[i]=59):
 Calls Tryz.prog 102 #[.string (bs l),.int .i64 (i:Nat)] w (jD w i ⟨3,[59],0⟩ (i+1) 0):=by
 have hsz:=zs l;have h1:i<(bs l).size:=by omega
 have h2:((i:Nat):Int)<((bs l).size:Int):=by omega
 have hi2:i≤2000:=by omega
 have k4':(bs l)[i]'h1=59:=by rw[zA];exact k4
 have k1:zM ((bs l)[i]'h1)=false:=by rw[k4'];decide
 have k2:zl ((bs l)[i]'h1)=false:=by rw[k4'];decide
 have hs1:=qe ((bs l)[i]'h1);rw[k1]at hs1;have hs2:=zY ((bs l)[i]'h1);rw[k2]at hs2;have hv:((((bs l)[i]'h1).toNat:Nat):Int)=59:=by rw[k4'];rfl
 rw[hv]at hs1 hs2
 have hx:(bs l).extract i (i+1)=bs [59]:=by
  rw[qq,List.drop_eq_getElem_cons hi,k4,Nat.add_sub_cancel_left];rfl
 have hb1:((i:Nat):Int)+1≤((bs l).size:Int):=by omega
 clear k1 k2 k4 k4';have HS:Hid ((bs l).size=l.length):=hsz;clear hsz;go_enter Tryz.func102,Tryz.ntmps102
 go_wp2_with (first
  |(go_at_call 111;refine(qQ _ _ _).mono ?_;rintro e w' ⟨rfl,rfl⟩)
  |(go_at_call 115;refine(hs1 _).mono ?_;rintro e w' ⟨rfl,rfl⟩)
  |(go_at_call 117;refine(hs2 _).mono ?_;rintro e w' ⟨rfl,rfl⟩))
 go_region
 all_goals
  go_wp2
  exact bodyPost_ret (v:= .tuple #[.agg (jy ⟨3,[59],0⟩ i),.int .i64 (((i+1):Nat):Int),.int .i64 0]) (by simp[results,Tryz.results102,go_sem,jy]) rfl ⟨rfl,yu _⟩
theorem XE{w:World}{l:List UInt8}{i:Nat}(hi:i<l.length)(hl:l.length≤2000)(k1:zM l[i]=false)(k2:zl l[i]=false)(d1:l[i]≠36)(d2:l[i]≠40)(d3:l[i]≠41)(d4:l[i]≠44)(d5:l[i]≠61)(d6:l[i]≠59):
 Calls Tryz.prog 102 #[.string (bs l),.int .i64 (i:Nat)] w (jD w i ⟨0,[],0⟩ i 101):=by
 have hsz:=zs l;have h1:i<(bs l).size:=by omega
 have h2:((i:Nat):Int)<((bs l).size:Int):=by omega
 have hi2:i≤2000:=by omega
 have hc1:zM ((bs l)[i]'h1)=false:=by rw[zA];exact k1
 have hs1:=qe ((bs l)[i]'h1);rw[hc1]at hs1;clear hc1 k1;have hc2:zl ((bs l)[i]'h1)=false:=by rw[zA];exact k2
 have hs2:=zY ((bs l)[i]'h1);rw[hc2]at hs2;clear hc2 k2
 have hv:∀k:Nat,k<256→l[i]≠UInt8.ofNat k→¬((((bs l)[i]'h1).toNat:Nat):Int)=(k:Int):=by
  intro k hk hne e;apply hne;rw[zA]at e;apply UInt8.toNat_inj.1;simp;omega
 have v1:=hv 36 (by decide) d1;have v2:=hv 40 (by decide) d2;have v3:=hv 41 (by decide) d3;have v4:=hv 44 (by decide) d4;have v5:=hv 61 (by decide) d5;have v6:=hv 59 (by decide) d6;clear hv;have HS:Hid ((bs l).size=l.length):=hsz;clear hsz;go_enter Tryz.func102,Tryz.ntmps102
 go_wp2_with (first
  |(go_at_call 111;refine(qQ _ _ _).mono ?_;rintro e w' ⟨rfl,rfl⟩)
  |(go_at_call 115;refine(hs1 _).mono ?_;rintro e w' ⟨rfl,rfl⟩)
  |(go_at_call 117;refine(hs2 _).mono ?_;rintro e w' ⟨rfl,rfl⟩))
 go_region
 all_goals
  go_wp2
  exact bodyPost_ret (v:= .tuple #[.agg (jy ⟨0,[],0⟩ i),.int .i64 ((i:Nat):Int),.int .i64 101]) (by simp[results,Tryz.results102,go_sem,jy,Jl]) rfl ⟨rfl,yu _⟩
theorem Zw{l:List UInt8}{j:Nat}(h:j<l.length):vc (l.drop j)=vR l[j]:=by
 rw[List.drop_eq_getElem_cons h];rfl
theorem JT{l:List UInt8}{j:Nat}(h:¬j<l.length):vc (l.drop j)=false:=by
 rw[List.drop_eq_nil_of_le (by omega)];rfl
theorem VO{l:List UInt8}{i:Nat}(hi:i<l.length):one (l.drop i) =
 if zM l[i]then(if 16<zv zW (l.drop i)then .error (102,0)else .ok (⟨0,(l.drop i).take (zv zW (l.drop i)),0⟩,zv zW (l.drop i)))
 else if zl l[i]then(if 9<zv zl (l.drop i)then .error (102,0)else if vc (l.drop (i+zv zl (l.drop i)))then .error (101,zv zl (l.drop i))else .ok (⟨1,[],val ((l.drop i).take (zv zl (l.drop i)))⟩,zv zl (l.drop i)))
 else if l[i]==36 then(if zv zo (l.drop (i+1))=0 then .error (101,1)else if 128<zv zo (l.drop (i+1))then .error (102,0)else if vc (l.drop (i+1+zv zo (l.drop (i+1))))then .error (101,zv zo (l.drop (i+1))+1)else .ok (⟨2,(l.drop (i+1)).take (zv zo (l.drop (i+1))),0⟩,zv zo (l.drop (i+1))+1))
 else if Qx l[i]then .ok (⟨3,[l[i]],0⟩,1)
 else .error (101,0):=by
 have hd:=List.drop_eq_getElem_cons hi
 conv=>lhs;rw[hd]
 simp only[one];rw[←hd,List.drop_drop,List.drop_drop]
theorem JS{c:UInt8}(h:Qx c=true):c=40∨c=41∨c=44∨c=61∨c=59:=by
 simp[Qx]at h;rcases h with(((h|h)|h)|h)|h<;>simp[h]
theorem U1{w:World}{l:List UInt8}{i n:Nat}{t:Tk}(hi:i<l.length)(hl:l.length≤2000)(h:one (l.drop i)= .ok (t,n)):
 Calls Tryz.prog 102 #[.string (bs l),.int .i64 (i:Nat)] w (jD w i t (i+n) 0):=by
 rw[VO hi]at h
 split at h
 ·rename_i k1
  split at h
  ·cases h
  ·rename_i hn
   cases h;exact XB hi hl k1 hn
 ·rename_i k1
  have k1:zM l[i]=false:=by simpa using k1
  split at h
  ·rename_i k2
   have h0:zv zl (l.drop i)≠0:=by rw[List.drop_eq_getElem_cons hi,jf,if_pos k2];omega
   split at h
   ·cases h
   ·rename_i hn
    split at h
    ·cases h
    ·rename_i hla
     cases h;by_cases hE:i+zv zl (l.drop i)<l.length
     ·rw[Zw hE]at hla
      exact kH hi hl k1 k2 hn h0 hE (by simpa using hla)
     ·exact XN hi hl k1 k2 hn h0 (by have:=yJ (p:=zl) (Nat.le_of_lt hi);omega)
  ·rename_i k2
   split at h
   ·rename_i k4
    have k4:=eq_of_beq k4
    split at h
    ·cases h
    ·rename_i h0
     split at h
     ·cases h
     ·rename_i hn
      split at h
      ·cases h
      ·rename_i hla
       cases h;rw[show i+(zv zo (l.drop (i+1))+1)=i+1+zv zo (l.drop (i+1)) by omega];by_cases hE:i+1+zv zo (l.drop (i+1))<l.length
       ·rw[Zw hE]at hla
        exact Uj hi hl k4 h0 hn hE (by simpa using hla)
       ·exact Kq hi hl k4 h0 hn (by have:=yJ (p:=zo) (j:=i+1) hi;omega)
   ·split at h
    ·rename_i k5
     cases h;rcases JS k5 with e|e|e|e|e
     ·rw[e];exact VT hi hl e
     ·rw[e];exact VE hi hl e
     ·rw[e];exact VW hi hl e
     ·rw[e];exact Vc hi hl e
     ·rw[e];exact Vp hi hl e
    ·cases h
def fN(w:World)(i er o:Nat)(e:Ending)(w':World):Prop:=∃t E,jD w i t E (er:Nat) e w'∧(er=101→E=i+o)∧(er≠101→er=102∧o=0)
theorem Ua{w:World}{l:List UInt8}{i er o:Nat}(hi:i<l.length)(hl:l.length≤2000)(h:one (l.drop i)= .error (er,o)):
 Calls Tryz.prog 102 #[.string (bs l),.int .i64 (i:Nat)] w (fN w i er o):=by
 rw[VO hi]at h
 split at h
 ·rename_i k1
  split at h
  ·rename_i hn
   cases h;exact(Yz hi hl k1 hn).mono λe w' hr=>⟨_,_,hr,λe=>(by cases e),λ_=>⟨rfl,rfl⟩⟩
  ·cases h
 ·rename_i k1
  have k1:zM l[i]=false:=by simpa using k1
  split at h
  ·rename_i k2
   have h0:zv zl (l.drop i)≠0:=by rw[List.drop_eq_getElem_cons hi,jf,if_pos k2];omega
   split at h
   ·rename_i hn
    cases h;exact(XX hi hl k1 k2 hn).mono λe w' hr=>⟨_,_,hr,λe=>(by cases e),λ_=>⟨rfl,rfl⟩⟩
   ·rename_i hn
    split at h
    ·rename_i hla
     cases h;by_cases hE:i+zv zl (l.drop i)<l.length
     ·rw[Zw hE]at hla
      exact(Xr hi hl k1 k2 hn h0 hE hla).mono λe w' hr=>⟨_,_,hr,λ_=>rfl,λe=>absurd rfl e⟩
     ·rw[JT hE]at hla;cases hla
    ·cases h
  ·rename_i k2
   have k2:zl l[i]=false:=by simpa using k2
   split at h
   ·rename_i k4
    have k4:=eq_of_beq k4
    split at h
    ·rename_i h0
     cases h;exact(Kz hi hl k4 h0).mono λe w' hr=>⟨_,_,hr,λ_=>rfl,λe=>absurd rfl e⟩
    ·rename_i h0
     split at h
     ·rename_i hn
      cases h;exact(Kj hi hl k4 hn).mono λe w' hr=>⟨_,_,hr,λe=>(by cases e),λ_=>⟨rfl,rfl⟩⟩
     ·rename_i hn
      split at h
      ·rename_i hla
       cases h;by_cases hE:i+1+zv zo (l.drop (i+1))<l.length
       ·rw[Zw hE]at hla
        exact(Kc hi hl k4 h0 hn hE hla).mono λe w' hr=>⟨_,_,hr,λ_=>by omega,λe=>absurd rfl e⟩
       ·rw[JT hE]at hla;cases hla
      ·cases h
   ·rename_i d1
    split at h
    ·cases h
    ·rename_i d2
     cases h;simp[Qx]at d2;exact(XE hi hl k1 k2 (by simpa using d1) d2.1.1.1.1 d2.1.1.1.2 d2.1.1.2 d2.1.2 d2.2).mono λe w' hr=>⟨_,_,hr,λ_=>rfl,λe=>absurd rfl e⟩
theorem zb{ops:Array Oper}{rest:List Oper}{o:Oper}{a:Act}{w:World}{Q:Exit→Act→World→Prop}(n:Nat)(hd:o.dst=some n)(h:wpList Tryz.prog ops Q (o::rest) a w):wpList Tryz.prog ops Q (o::rest) a w:=h
def Ks(ts:zt):List Value:=ts.flatMap λt=>(jy t.1 t.2).toList
theorem X3(a b:zt):Ks (a++b)=Ks a++Ks b:=by simp[Ks]
theorem ke(t:Tk×Nat):Ks [t]=(jy t.1 t.2).toList:=by simp[Ks]
theorem UC(ts:zt):∀u ∈ Ks ts,u.oneCell'=true:=by
 intro u hu;obtain⟨t,_,h⟩:=List.mem_flatMap.1 hu;simp[jy]at h;rcases h with rfl|rfl|rfl|rfl<;>rfl
theorem gM(ts:zt)(i:Nat)(h:i<ts.length)(j:Nat)(hj:j<4):(Ks ts)[i*4+j]?=(jy ts[i].1 ts[i].2)[j]?:=by
 induction ts generalizing i with
 |nil=>simp at h
 |cons t r ih =>
  have e:Ks (t::r)=(jy t.1 t.2).toList++Ks r:=by simp[Ks]
  have e4:(jy t.1 t.2).toList.length=4:=rfl;rw[e];cases i with
  |zero =>
   rw[List.getElem?_append_left (by rw[e4];omega)];simp
  |succ i =>
   rw[List.getElem?_append_right (by rw[e4];omega),e4];simp only[List.length_cons]at h;rw[show(i+1)*4+j-4=i*4+j by omega,ih i (by omega)];simp
def jo(w:World)(base:Nat)(v:Value)(ts:zt):Prop:=w.ownsRow base 79 4 v ts.length (Ks ts)
theorem zE{w w':World}{base e size n:Nat}{v:Value}{xs:List Value}(h:w.ownsRow base e size v n xs)(hb:∀g o,v.ownBlock=some g→w.heap[g]?=some o→w'.heap[g]?=some o):w'.ownsRow base e size v n xs:=by
 refine⟨h.1,?_⟩;rcases h.2 with h0|⟨g,cap,cur,hv,h1,hg,r⟩
 ·exact .inl h0
 ·exact .inr ⟨g,cap,cur,hv,h1,hb g _ (by rw[hv];rfl) hg,r⟩
theorem qo{w:World}{base e size n:Nat}{v:Value}{xs:List Value}(h:w.ownsRow base e size v n xs){g:Nat}(hg:v.ownBlock=some g):g<w.heap.size∧base≤g:=by
 rcases h.2 with⟨rfl,_⟩|⟨g',cap,cur,rfl,h1,hg',r⟩
 ·cases hg
 ·cases hg;exact⟨(Array.getElem?_eq_some_iff.1 hg').1,h1⟩
theorem jo.below{w w':World}{base:Nat}{v:Value}{ts:zt}(h:jo w base v ts)(hb:Below w.heap.size w w'):jo w' base v ts:=
 zE h (λg o e ho=>(hb.block g (qo h e).1).trans ho)
theorem jo.empty(w:World)(base:Nat):jo w base (.slice none 0 0) []:=⟨rfl,.inl ⟨rfl,rfl⟩⟩
theorem jo.mono{w:World}{base base':Nat}{v:Value}{ts:zt}(h:jo w base v ts)(hb:base'≤base):jo w base' v ts:=by
 refine⟨h.1,?_⟩;rcases h.2 with h0|⟨g,cap,cur,hv,h1,r⟩
 ·exact .inl h0
 ·exact .inr ⟨g,cap,cur,hv,by omega,r⟩
theorem Tryz.infoTok:(Tryz.prog.info? 79).map (λi=>(i.zero,i.size,i.bytes))=some (some (.agg #[.int .i64 0,.string ⟨#[]⟩,.int .i64 0,.int .i64 0]),4,40):=by kernel_rfl
theorem xO{w w':World}{base e size n:Nat}{v:Value}{xs:List Value}(h:w.ownsRow base e size v n xs)(hg:w.grownBy w' v.ownBlock)(hb:base≤w.heap.size):Below base w w':=
 ⟨hg.os,hg.tape,hg.output,hg.size,λk hk=>hg.block k (by omega) (λe=>by have:=(qo h e.symm).2;omega)⟩
theorem yD{ops:Array Oper}{rest:List Oper}{o:Oper}{a:Act}{w:World}{Q:Exit→Act→World→Prop}(hgd:o.guard=none)(s x:Operand)
 (ho:o.op= .call { callee:= .builtin .append,args:=#[s,x],argTypes:=#[49,49] }) (base:Nat) (v:Value) (ts:zt) (hs:a.eval s=v) (hown:jo w base v ts)
 (G:Nat) (t:Tk) (p:Nat) (hx:a.eval x= .slice (some ⟨G,0,none⟩) 1 1) (hG:zi w G 79 (jy t p)) (hn:ts.length≤500) (hbase:base≤w.heap.size)
 (h:∀v' w',jo w' base v' (ts++ [(t,p)])→Below base w w'→wpList Tryz.prog ops Q rest (a.put o.dst v') w'):wpList Tryz.prog ops Q (o::rest) a w:=by
 obtain⟨i0,hi,hz0,hz1,hz2⟩:=info_parts Tryz.infoTok;refine wpList_append_own w hgd s x 49 ho base 79 i0 (.agg #[.int .i64 0,.string ⟨#[]⟩,.int .i64 0,.int .i64 0]) 4 40 Tryz.underlying49 hi hz0 hz1 hz2 rfl (by decide) v ts.length (Ks ts) hs hown ⟨G,0,none⟩ 1 1 (jy t p).toList hx rfl ?_ ?_ (by unfold maxLen;omega) (by omega) hbase ?_
 ·intro j u hj
  have:=hG.cell j;rw[show(⟨G,0,none⟩:Addr).add j=⟨G,j,none⟩ by simp[Addr.add];omega];rw[this]
  simpa using hj
 ·intro u hu
  exact UC [(t,p)] u (by rw[ke];exact hu)
 ·intro v' w' h1 h2 _
  refine h v' w' ?_ (xO hown h2 hbase);show w'.ownsRow base 79 4 v' (ts++ [(t,p)]).length (Ks (ts++ [(t,p)]));rw[X3,ke,List.length_append];exact h1
theorem Vl{x:List UInt8}{er o:Nat}(h:one x= .error (er,o)):er=101∨er=102∧o=0:=by
 cases x with
 |nil=>cases h;exact .inl rfl
 |cons c r =>
  simp only[one]at h
  repeat' split at h
  all_goals first |(cases h;exact .inl rfl)|(cases h;exact .inr ⟨rfl,rfl⟩)|cases h
def J5(w:World)(R:Except (Nat×Nat) zt)(e:Ending)(w':World):Prop:=Below w.heap.size w w'∧match R with
 | .error (er,o)=>e= .returned (.tuple #[.slice none 0 0,.int .i64 (er:Nat),.int .i64 (o:Nat)])
 | .ok ts=>∃v,e= .returned (.tuple #[v,.int .i64 0,.int .i64 (-1)])∧jo w' w.heap.size v ts
theorem kX(w:World)(l:List UInt8)(h:2000<l.length)(hm:l.length≤maxLen):Calls Tryz.prog 91 #[.string (bs l)] w (J5 w (vK l)):=by
 unfold maxLen at hm;have hsz:=zs l;have h1:(2000:Int)<((bs l).size:Int):=by omega
 have HR:Hid (vK l= .error (103,0)):=by show vK l=_;unfold vK;rw[if_pos h]
 clear hsz;go_enter Tryz.func91,Tryz.ntmps91
 go_wp2
 go_ret3
 exact⟨Below.refl _ _,by rw[HR.out];rfl⟩
def j5(w wr:World)(l:List UInt8)(v:Value)(i:Nat)(ts:zt):Prop:=i≤l.length∧Below w.heap.size w wr∧jo wr w.heap.size v ts∧ts.length≤500∧∃f,l.length-i<f∧vK l=yG ts (xo f (l.drop i) i ts.length)
theorem j5.step{w wr:World}{l:List UInt8}{v:Value}{i:Nat}{ts:zt}(h:j5 w wr l v i ts):∃f,l.length-i≤f∧vK l=yG ts (xo (f+1) (l.drop i) i ts.length):=by
 obtain⟨h1,h2,h3,h4,f,h5,h6⟩:=h;cases f with
 |zero=>omega
 |succ f=>exact⟨f,by omega,h6⟩
theorem j5.done{w wr:World}{l:List UInt8}{v:Value}{i:Nat}{ts:zt}(h:j5 w wr l v i ts)(hd:¬i+qK false (l.drop i)<l.length):vK l= .ok ts:=by
 obtain⟨f,hf,e⟩:=h.step;rw[e,QH (by rw[List.drop_drop];exact List.drop_eq_nil_of_le (by omega))];simp[yG]
theorem j5.ne{l:List UInt8}{i:Nat}(hd:i+qK false (l.drop i)<l.length):(l.drop i).drop (qK false (l.drop i))≠ []:=by
 rw[List.drop_drop];intro e;have:=congrArg List.length e;simp at this;omega
theorem j5.bad{w wr:World}{l:List UInt8}{v:Value}{i er o:Nat}{ts:zt}(h:j5 w wr l v i ts)(hd:i+qK false (l.drop i)<l.length)(ho:one (l.drop (i+qK false (l.drop i)))= .error (er,o)):vK l= .error (er,i+qK false (l.drop i)+o):=by
 obtain⟨f,hf,e⟩:=h.step;rw[e,ZI (j5.ne hd) (by rw[List.drop_drop];exact ho)];rfl
theorem j5.many{w wr:World}{l:List UInt8}{v:Value}{i n:Nat}{t:Tk}{ts:zt}(h:j5 w wr l v i ts)(hd:i+qK false (l.drop i)<l.length)(ho:one (l.drop (i+qK false (l.drop i)))= .ok (t,n))(h5:ts.length=500):vK l= .error (103,i+qK false (l.drop i)):=by
 obtain⟨f,hf,e⟩:=h.step;rw[h5]at e;rw[e,ZW (j5.ne hd) (by rw[List.drop_drop];exact ho)];rfl
theorem j5.next{w wr w':World}{l:List UInt8}{v v':Value}{i n:Nat}{t:Tk}{ts:zt}(h:j5 w wr l v i ts)(hd:i+qK false (l.drop i)<l.length)(ho:one (l.drop (i+qK false (l.drop i)))= .ok (t,n))(h5:ts.length≠500)
 (hb:Below w.heap.size w w') (hr:jo w' w.heap.size v' (ts++ [(t,i+qK false (l.drop i))])):j5 w w' l v' (i+qK false (l.drop i)+n) (ts++ [(t,i+qK false (l.drop i))]):=by
 obtain⟨f,hf,e⟩:=h.step;have hn:=VJ ho;rw[List.length_drop]at hn;have h4:=h.2.2.2.1;refine⟨by omega,hb,hr,by rw[List.length_append];simp;omega,f,by omega,?_⟩;rw[e,ZZ (j5.ne hd) (by rw[List.drop_drop];exact ho) h5,Qw,List.drop_drop,List.length_append];rw[show i+(qK false (l.drop i)+n)=i+qK false (l.drop i)+n by omega];rfl
theorem ZX{w:World}{base:Nat}{v:Value}{ts:zt}(h:jo w base v ts):∃A C,v= .slice A ts.length C:=by
 rcases h.2 with⟨rfl,h0⟩|⟨g,cap,cur,rfl,_⟩
 ·exact⟨none,0,by rw[h0]⟩
 ·exact⟨_,_,rfl⟩
theorem QB{w wr w2:World}(h:Below w.heap.size w wr)(h2:Below wr.heap.size wr w2)(o:Obj):Below w.heap.size w (w2.alloc o):=
 (h.trans (h2.mono h.size)).alloc (by have:=h.size;have:=h2.size;omega) o
theorem KS{w wr w2 w3 w4:World}{o1 o2:Obj}(h:Below w.heap.size w wr)(h2:Below wr.heap.size wr w2)(h3:Below w.heap.size ((w2.alloc o1).alloc o2) w3)(h4:Below w3.heap.size w3 w4):Below w.heap.size w w4:=by
 have s1:=h.size;have s2:=h2.size;have s3:=h3.size;simp at s3;exact((((h.trans (h2.mono s1)).alloc (by omega) o1).alloc (by simp;omega) o2).trans h3).trans (h4.mono (by omega))
theorem fa(w:World)(l:List UInt8)(h:¬2000<l.length):Calls Tryz.prog 91 #[.string (bs l)] w (J5 w (vK l)):=by
 have hl:l.length≤2000:=by omega
 have hsz:=zs l;have h1:¬(2000:Int)<((bs l).size:Int):=by omega
 have HS:Hid ((bs l).size=l.length):=hsz;have hp:=λW=>Yw W l 0 (Nat.zero_le _) hl
 clear hsz;simp only[Nat.zero_add]at hp;go_enter Tryz.func91,Tryz.ntmps91
 go_wp2_with (go_at_call 101;refine(hp _).mono ?_;rintro e w1 ⟨rfl,hb1⟩)
 go_loopw [5,6] (λv z wr=>∃(i:Nat) (ts:zt),j5 w wr l v i ts∧z= .int .i64 ((i+qK false (l.drop i):Nat):Int)) (λ_ z _=>2000-(intOf z).toNat)
 case atStart=>exact⟨0,[],⟨Nat.zero_le _,hb1,jo.empty _ _,by simp,l.length+1,by omega,by rw[J2];unfold vK;rw[if_neg h];rfl⟩,by simp⟩
 case round =>
  clear hb1 hp;obtain⟨i,ts,hA,rfl⟩:=hrel;have hle:=uW false (l.drop i);rw[List.length_drop]at hle;obtain⟨hi,hbw,hrow,h500,-⟩:=id hA;obtain⟨A,C,rfl⟩:=ZX hrow
  obtain⟨J,hJ⟩:∃J,J=i+qK false (l.drop i):=⟨_,rfl⟩
  have hJ2:J≤2000:=by omega
  have HJ:Hid (J=i+qK false (l.drop i)):=hJ;rw[←hJ]
  obtain⟨M,hM⟩:∃M,M=ts.length:=⟨_,rfl⟩
  have HM:Hid (M=ts.length):=hM;rw[←hM]at h500 hrow hA ⊢;have hM2:M≤500:=h500;clear hM h500 hle;by_cases hlt:J<l.length
  ·have h2:((J:Nat):Int)<((bs l).size:Int):=by rw[HS.out];omega
   cases ho:one (l.drop J)with
   |error r =>
    obtain⟨er,o⟩:=r;have hbad:=hA.bad (by rw[←hJ];exact hlt) (by rw[←hJ];exact ho);rw[←hJ]at hbad;have ht:=λW=>Ua (w:=W) hlt hl ho
    have HB:Hid (vK l= .error (er,J+o)):=hbad;rcases Vl ho with e|⟨e,e'⟩
    ·subst e
     clear hbad ho hJ hA
     go_wp2_with (go_at_call 102;refine(ht _).mono ?_;rintro e w2 ⟨t,E,⟨rfl,hb2⟩,hE,-⟩;have HE:Hid (E=J+o):=hE rfl;clear hE;simp only[jy])
     go_ret3
     exact⟨QB hbw hb2 _,by rw[HB.out,←HE.out];rfl⟩
    ·subst e e'
     clear hbad ho hJ hA
     go_wp2_with (go_at_call 102;refine(ht _).mono ?_;rintro e w2 ⟨t,E,⟨rfl,hb2⟩,hE,-⟩;simp only[jy])
     go_ret3
     exact⟨QB hbw hb2 _,by rw[HB.out];rfl⟩
   |ok r =>
    obtain⟨t,n⟩:=r;have ht:=λW=>U1 (w:=W) hlt hl ho
    have hn:=VJ ho;rw[List.length_drop]at hn;have hlt':i+qK false (l.drop i)<l.length:=by rw[←hJ];exact hlt
    have ho':one (l.drop (i+qK false (l.drop i)))= .ok (t,n):=by rw[←hJ];exact ho
    by_cases h5:M=500
    ·have hmany:=hA.many hlt' ho' (HM.out ▸ h5)
     rw[←hJ]at hmany;have HB:Hid (vK l= .error (103,J)):=hmany;clear hmany ho ho' hlt' hJ hA;subst h5
     go_wp2_with (go_at_call 102;refine(ht _).mono ?_;rintro e w2 ⟨rfl,hb2⟩;simp only[jy])
     go_ret3
     exact⟨QB hbw hb2 _,by rw[HB.out];rfl⟩
    ·have h5':¬((M:Nat):Int)=500:=by omega
     have hnext:=λw' v' hb hr=>hA.next (w':=w') (v':=v') hlt' ho' (by rw[←HM.out];exact h5) hb hr
     rw[←hJ]at hnext;have hp:=λW=>Yw W l (J+n) (by omega) hl
     obtain⟨E,hE⟩:∃E,E=J+n:=⟨_,rfl⟩
     rw[←hE]at hp ht hnext;have hE1:J<E:=by omega
     have hE2:E≤2000:=by omega
     clear ho ho' hlt' hJ hA hE
     go_wp2_with (first
      |(go_at_call 102;refine(ht _).mono ?_;rintro e w2 ⟨rfl,hb2⟩;simp only[jy])
      |(go_at_call 101;refine(hp _).mono ?_;rintro e w4 ⟨rfl,hb4⟩)
      |(refine zb 44 rfl ?_
        refine yD rfl _ _ rfl w.heap.size _ ts rfl (((hrow.below hb2).below ((Below.refl _ _).alloc (Nat.le_refl _) _)).below ((Below.refl _ _).alloc (Nat.le_refl _) _)) (w2.heap.size+1) t J rfl (zi.new_at (by simp)) (by rw[←HM.out];exact hM2) (by have:=hbw.size;have:=hb2.size;simp;omega) ?_
        intro v' w3 hr3 hb3))
     go_roundw
     case rel =>
      have hbA:Below w.heap.size w w4:=KS hbw hb2 hb3 hb4;exact⟨E,_,hnext w4 _ hbA (hr3.below hb4),rfl⟩
     case measure=>simp[intOf];omega
  ·have h2:¬((J:Nat):Int)<((bs l).size:Int):=by rw[HS.out];omega
   have hdone:=hA.done (by rw[←hJ];exact hlt);have HB:Hid (vK l= .ok ts):=hdone;clear hdone hA hJ
   go_wp2
   go_ret3
   exact⟨hbw,by rw[HB.out];exact⟨_,rfl,hrow⟩⟩
theorem YZ(w:World)(l:List UInt8)(hm:l.length≤maxLen):Calls Tryz.prog 91 #[.string (bs l)] w (J5 w (vK l)):=by
 by_cases h:2000<l.length
 ·exact kX w l h hm
 ·exact fa w l h
theorem jo.lies{w:World}{base:Nat}{v:Value}{ts:zt}(h:jo w base v ts)(hne:ts≠ []):∃g C,v= .slice (some ⟨g,0,none⟩) ts.length C∧base≤g∧g<w.heap.size∧ts.length≤C∧C≤maxLen ∧
 (∃cur,zi w g 79 cur∧cur.size=C*4∧cur.toList.take (ts.length*4)=Ks ts)∧∀i (hi:i<ts.length) j,j<4→w.cell? ⟨g,i*4+j,none⟩=(jy ts[i].1 ts[i].2)[j]?:=by
 rcases h.2 with⟨rfl,h0⟩|⟨g,cap,cur,rfl,h1,hg,hn,hm,hs,ht⟩
 ·exact absurd (List.length_eq_zero_iff.1 h0) hne
 ·refine⟨g,cap,rfl,h1,(Array.getElem?_eq_some_iff.1 hg).1,hn,hm,⟨cur,hg,hs,ht⟩,λi hi j hj=>?_⟩
  rw[←gM ts i hi j hj,←ht,List.getElem?_take_of_lt (by omega),Array.getElem?_toList];exact cell_of_row w g (i*4+j) cur _ _ hg
theorem Xu(x:List UInt8)(w:World):Calls Tryz.prog 92 #[.string (bs x)] w λe w'=>e= .returned (.bool (xA x))∧w'=w:=by
 have ht:=zp x;go_enter Tryz.func92,Tryz.ntmps92
 go_wp2
 all_goals
  go_ret
  refine⟨qb ?_,rfl⟩
  symm
  simp_all only[xA,Bool.true_or,Bool.or_true,Bool.or_false,Bool.false_eq_true]
def yK(x:List UInt8)(k:Nat):Bool:=(RW.take k).any λy=>y==x
theorem YL(x:List UInt8)(k:Nat)(h:k<14):yK x (k+1)=(yK x k||(RW[k]'h==x)):=by
 unfold yK;rw[List.take_succ_eq_append_getElem h,List.any_append];simp
theorem Ji(x:List UInt8):yK x 14=xA x:=by
 unfold yK xA;have e:∀y:List UInt8,(y==x)=(x==y):=λy=>BEq.comm
 simp only[RW,List.take_succ_cons,List.take_zero,List.any_cons,List.any_nil,Bool.or_false,Bool.or_assoc,e]
theorem KQ(x:List UInt8)(k:Nat)(h:k<14)(e:(RW[k]'h==x)=true):xA x=true:=by
 rw[←Ji];unfold yK;exact List.any_eq_true.2 ⟨_,List.mem_take_iff_getElem.2 ⟨k,by simp[RW];omega,rfl⟩,e⟩
def xR:Array Value:=#[.string ⟨#[100,101,118,105,99,101]⟩,.string ⟨#[106,111,117,114,110,97,108]⟩,.string ⟨#[107,101,121]⟩,.string ⟨#[114,111,111,116]⟩,.string ⟨#[118,111,108,117,109,101]⟩,.string ⟨#[101,120,112,111,114,116]⟩,.string ⟨#[114,101,97,100,111,110,108,121]⟩,.string ⟨#[108,105,110,101,97,114]⟩,.string ⟨#[99,111,110,99,97,116]⟩,.string ⟨#[109,105,114,114,111,114]⟩,.string ⟨#[115,110,97,112,115,104,111,116]⟩,.string ⟨#[99,114,121,112,116]⟩,.string ⟨#[105,110,116,101,103,114,105,116,121]⟩,.string ⟨#[118,101,114,105,116,121]⟩]
theorem Yr(k:Nat)(h:k<14):xR[k]?=some (.string (bs (RW[k]'h))):=by
 match k,h with
 |0,_=>rfl
 |1,_=>rfl
 |2,_=>rfl
 |3,_=>rfl
 |4,_=>rfl
 |5,_=>rfl
 |6,_=>rfl
 |7,_=>rfl
 |8,_=>rfl
 |9,_=>rfl
 |10,_=>rfl
 |11,_=>rfl
 |12,_=>rfl
 |13,_=>rfl
theorem Qq(x:List UInt8)(w:World):Calls Tryz.prog 53 #[.string (bs x)] w λe w'=>e= .returned (.bool (xA x))∧Below w.heap.size w w':=by
 have ht:=zp x;have hH:zi (w.alloc (.cells xR 9)) w.heap.size 9 xR:=zi.new _ _ _;have hB:Below w.heap.size w (w.alloc (.cells xR 9)):=(Below.refl _ _).alloc (Nat.le_refl _) _
 obtain⟨W,hW⟩:∃W,W=w.alloc (.cells xR 9):=⟨_,rfl⟩
 rw[←hW]at hH hB;have HW:Hid (W=w.alloc (.cells xR 9)):=hW;clear hW;go_enter Tryz.func53,Tryz.ntmps53
 go_wp2_with (first
  |(refine zb 5 rfl ?_
    refine zq (some 5) (.slice (some ⟨w.heap.size,0,none⟩) 14 14) W rfl (by rfl) (by rw[HW.out];kernel_rfl) ?_))
 go_loop [4] (λz=>∃k:Nat,k≤14∧z= .int .i64 (k:Nat)∧yK x k=false) (λz=>14-(intOf z).toNat)
 case atStart=>exact⟨0,Nat.zero_le _,rfl,rfl⟩
 case round =>
  obtain⟨k,hk,rfl,hr⟩:=hrel;have HR:Hid (yK x k=false):=hr;clear hr;by_cases hlt:k<14
  ·have hc:W.cell? ⟨w.heap.size,k,none⟩=some (.string (bs (RW[k]'hlt))):=by rw[hH.cell];exact Yr k hlt
   have ht2:=zp (RW[k]'hlt);have hy:=KQ x k hlt;have hn:=YL x k hlt;generalize RW[k]'hlt=y at hc ht2 hy hn;have HN:Hid (yK x (k+1)=(yK x k||(y==x))):=hn;have HY:Hid ((y==x)=true→xA x=true):=hy;clear hy hn
   cases e:(y==x)
   ·go_wp2
    go_round
    case rel=>exact⟨k+1,by omega,by go_num,by rw[HN.out,HR.out,e];rfl⟩
    case measure=>simp[intOf];omega
   ·go_wp2
    go_ret
    exact⟨qb (HY.out e).symm,hB⟩
  ·have hk14:k=14:=by omega
   subst hk14
   go_wp2
   go_ret
   exact⟨qb (by rw[←Ji,HR.out]),hB⟩
def xX(w:World)(v:Value)(l:List (List UInt8)):Prop:=(l= []∧v= .slice none 0 0)∨∃g,v= .slice (some ⟨g,0,none⟩) l.length l.length∧zi w g 9 (l.map λx=>Value.string (bs x)).toArray
def kw(ks:List Kd):List (List UInt8):=ks.map Kd.w
theorem xX.below{w w':World}{v:Value}{l:List (List UInt8)}(h:xX w v l)(hb:Below w.heap.size w w'):xX w' v l:=by
 rcases h with h|⟨g,rfl,h⟩
 ·exact .inl h
 ·exact .inr ⟨g,rfl,h.below hb h.lt⟩
theorem Vx{x:List UInt8}(h:(x== [108,105,110,101,97,114])=true):zQ x=([.ex,.nu,.nu],false):=by
 rw[eq_of_beq h];rfl
theorem Vh{x:List UInt8}(h:(x== [99,111,110,99,97,116])=true):zQ x=([.ex],true):=by
 rw[eq_of_beq h];rfl
theorem Vg{x:List UInt8}(h:(x== [109,105,114,114,111,114])=true):zQ x=([.ex],true):=by
 rw[eq_of_beq h];rfl
theorem Jm{x:List UInt8}(h:(x== [115,110,97,112,115,104,111,116])=true):zQ x=([.ex,.ex,.nu],false):=by
 rw[eq_of_beq h];rfl
theorem YD{x:List UInt8}(h:(x== [99,114,121,112,116])=true):zQ x=([.ex,.na],false):=by
 rw[eq_of_beq h];rfl
theorem Qz{x:List UInt8}(h:(x== [105,110,116,101,103,114,105,116,121])=true):zQ x=([.ex,.na],false):=by
 rw[eq_of_beq h];rfl
theorem VD{x:List UInt8}(h:(x== [118,101,114,105,116,121])=true):zQ x=([.ex,.na],false):=by
 rw[eq_of_beq h];rfl
theorem Kf{x:List UInt8}(hLinear:(x== [108,105,110,101,97,114])=false)(hConcat:(x== [99,111,110,99,97,116])=false)(hMirror:(x== [109,105,114,114,111,114])=false)(hSnapshot:(x== [115,110,97,112,115,104,111,116])=false)(hCrypt:(x== [99,114,121,112,116])=false)(hIntegrity:(x== [105,110,116,101,103,114,105,116,121])=false)(hVerity:(x== [118,101,114,105,116,121])=false):zQ x=([],false):=by
 simp only[beq_eq_false_iff_ne]at *;unfold zQ;rw[if_neg (show ¬x=qO from hLinear),if_neg (show ¬(x=qE∨x=qW) by(rintro(h|h);exact hConcat h;exact hMirror h)),if_neg (show ¬x=qi from hSnapshot),if_neg (show ¬(x=jH∨x=qk∨x=js) by(rintro(h|h|h);exact hCrypt h;exact hIntegrity h;exact hVerity h))]
theorem uc(x:List UInt8)(w:World):Calls Tryz.prog 93 #[.string (bs x)] w λe w'=>∃v,e= .returned (.tuple #[v,.bool (zQ x).2])∧Below w.heap.size w w'∧xX w' v (kw (zQ x).1):=by
 have ht:=zp x;go_enter Tryz.func93,Tryz.ntmps93
 go_wp2
 all_goals
  go_ret2
  first
   |(rw[Vx (by assumption)];exact⟨_,rfl,(Below.refl _ _).alloc (Nat.le_refl _) _,.inr ⟨w.heap.size,rfl,zi.new _ _ _⟩⟩)
   |(rw[Vh (by assumption)];exact⟨_,rfl,(Below.refl _ _).alloc (Nat.le_refl _) _,.inr ⟨w.heap.size,rfl,zi.new _ _ _⟩⟩)
   |(rw[Vg (by assumption)];exact⟨_,rfl,(Below.refl _ _).alloc (Nat.le_refl _) _,.inr ⟨w.heap.size,rfl,zi.new _ _ _⟩⟩)
   |(rw[Jm (by assumption)];exact⟨_,rfl,(Below.refl _ _).alloc (Nat.le_refl _) _,.inr ⟨w.heap.size,rfl,zi.new _ _ _⟩⟩)
   |(rw[YD (by assumption)];exact⟨_,rfl,(Below.refl _ _).alloc (Nat.le_refl _) _,.inr ⟨w.heap.size,rfl,zi.new _ _ _⟩⟩)
   |(rw[Qz (by assumption)];exact⟨_,rfl,(Below.refl _ _).alloc (Nat.le_refl _) _,.inr ⟨w.heap.size,rfl,zi.new _ _ _⟩⟩)
   |(rw[VD (by assumption)];exact⟨_,rfl,(Below.refl _ _).alloc (Nat.le_refl _) _,.inr ⟨w.heap.size,rfl,zi.new _ _ _⟩⟩)
   |(rw[Kf (by assumption) (by assumption) (by assumption) (by assumption) (by assumption) (by assumption) (by assumption)];exact⟨_,rfl,Below.refl _ _,.inl ⟨rfl,rfl⟩⟩)
   |(exfalso;simp_all only[Bool.false_eq_true])
theorem Dx(t:Tk)(q:Nat)(w:World):Calls Tryz.prog 76 #[.agg (jy t q)] w λe w'=>e= .returned (.bool (j3 t))∧Below w.heap.size w w':=by
 have hr:=Xu t.s;unfold j3;by_cases h0:t.kind=0
 ·have h1:((t.kind:Nat):Int)=0:=by omega
  cases e:xA t.s
  all_goals
   rw[e]at hr;unfold jy;clear e;go_enter Tryz.func76,Tryz.ntmps76
   go_wp2_with (go_at_call 92;refine(hr _).mono ?_;rintro e w' ⟨rfl,rfl⟩)
   go_ret
   exact⟨by simp[h0],(Below.refl _ _).alloc (Nat.le_refl _) _⟩
 ·have h1:¬((t.kind:Nat):Int)=0:=by omega
  unfold jy;go_enter Tryz.func76,Tryz.ntmps76
  go_wp2
  go_ret
  exact⟨by simp[h0],(Below.refl _ _).alloc (Nat.le_refl _) _⟩
theorem Ke(l:List (List UInt8))(x:List UInt8)(k:Nat)(h:k<l.length):(l.take (k+1)).any (λy=>x==y)=((l.take k).any (λy=>x==y)||(x==l[k])):=by
 rw[List.take_succ_eq_append_getElem h,List.any_append];simp
theorem gI(l:List (List UInt8))(x:List UInt8)(k:Nat)(h:k<l.length)(e:(x==l[k])=true):l.any (λy=>x==y)=true:=
 List.any_eq_true.2 ⟨_,List.getElem_mem h,e⟩
theorem gE(l:List (List UInt8))(x:List UInt8)(w:World)(v:Value)(h:xX w v l)(hl:l.length≤100):Calls Tryz.prog 103 #[v,.string (bs x)] w λe w'=>∃i:Int,e= .returned (.int .i64 i)∧decide (0≤i)=l.any (λy=>x==y)∧w'=w:=by
 have ht:=zp x;rcases h with⟨rfl,rfl⟩|⟨g,rfl,hH⟩
 ·go_enter Tryz.func103,Tryz.ntmps103
  go_wp2
  go_loop [8] (λz=>z= .int .i64 0) (λ_=>0)
  case atStart=>rfl
  case round =>
   subst hrel
   go_wp2
   go_ret
   exact⟨-1,rfl,by simp,rfl⟩
 ·obtain⟨n,hn⟩:∃n,n=l.length:=⟨_,rfl⟩
  have HN:Hid (n=l.length):=hn;have hn2:n≤100:=by omega
  rw[←hn];clear hn;go_enter Tryz.func103,Tryz.ntmps103
  go_wp2
  go_loop [8] (λz=>∃k:Nat,k≤n∧z= .int .i64 (k:Nat)∧(l.take k).any (λy=>x==y)=false) (λz=>n-(intOf z).toNat)
  case atStart=>exact⟨0,Nat.zero_le _,rfl,rfl⟩
  case round =>
   obtain⟨k,hk,rfl,hr⟩:=hrel;have HR:Hid ((l.take k).any (λy=>x==y)=false):=hr;clear hr;by_cases hlt:k<n
   ·have hlt':k<l.length:=by rw[←HN.out];exact hlt
    have h2:(k:Int)<(n:Int):=by omega
    have hc:w.cell? ⟨g,k,none⟩=some (.string (bs (l[k]'hlt'))):=by rw[hH.cell];simp[hlt']
    have ht2:=zp (l[k]'hlt');have hy:=gI l x k hlt';have hs:=Ke l x k hlt';generalize l[k]'hlt'=y at hc ht2 hy hs;have HS:Hid ((l.take (k+1)).any (λy=>x==y)=((l.take k).any (λy=>x==y)||(x==y))):=hs;have HY:Hid ((x==y)=true→l.any (λy=>x==y)=true):=hy;clear hy hs hlt'
    cases e:(x==y)
    ·go_wp2
     go_round
     case rel=>exact⟨k+1,by omega,by go_num,by rw[HS.out,HR.out,e];rfl⟩
     case measure=>simp[intOf];omega
    ·go_wp2
     go_ret
     exact⟨_,rfl,by rw[HY.out e];simp,rfl⟩
   ·have hk2:k=n:=by omega
    subst hk2
    go_wp2
    go_ret
    refine⟨-1,rfl,?_,rfl⟩;have:=HR.out;rw[HN.out,List.take_length]at this;rw[this];rfl
theorem QI(l:List (List UInt8))(x:List UInt8)(w:World)(v:Value)(h:xX w v l)(hl:l.length≤100):Calls Tryz.prog 96 #[v,.string (bs x)] w λe w'=>e= .returned (.bool (l.any (λy=>x==y)))∧w'=w:=by
 have hi:=gE l x w v h hl;go_enter Tryz.func96,Tryz.ntmps96
 go_wp2_with (go_at_call 103;refine hi.mono ?_;rintro e w' ⟨i,rfl,hd,rfl⟩)
 go_ret
 exact⟨qb (by rw[←hd]),rfl⟩
theorem Gg(a b:List UInt8):bs a++bs b=bs (a++b):=by
 apply ByteArray.ext;simp[bs]
theorem Xm(w:World)(l:List UInt8)(hm:l.length≤maxLen){er o:Nat}(h:vK l= .error (er,o)):Calls Tryz.prog 91 #[.string (bs l)] w λe w'=>e= .returned (.tuple #[.slice none 0 0,.int .i64 (er:Nat),.int .i64 (o:Nat)])∧Below w.heap.size w w':=by
 have:=YZ w l hm;rw[h]at this;exact this.mono λe w' hr=>⟨hr.2,hr.1⟩
theorem kS(w:World)(l:List UInt8)(hm:l.length≤maxLen){ts:zt}(h:vK l= .ok ts):Calls Tryz.prog 91 #[.string (bs l)] w λe w'=>∃A C,e= .returned (.tuple #[.slice A ts.length C,.int .i64 0,.int .i64 (-1)])∧Below w.heap.size w w'∧jo w' w.heap.size (.slice A ts.length C) ts:=by
 have:=YZ w l hm;rw[h]at this;refine this.mono ?_;rintro e w' ⟨hb,v,rfl,hr⟩;obtain⟨A,C,rfl⟩:=ZX hr;exact⟨A,C,rfl,hb,hr⟩
abbrev Kp(p:Nat)(w w':World):Prop:=w.grownBy w' (some p)
theorem Kp.refl(p:Nat)(w:World):Kp p w w:=⟨rfl,rfl,rfl,Nat.le_refl _,λ_ _ _=>rfl⟩
theorem Kp.trans{p:Nat}{a b c:World}(h:Kp p a b)(k:Kp p b c):Kp p a c:=
 ⟨k.os.trans h.os,k.tape.trans h.tape,k.output.trans h.output,Nat.le_trans h.size k.size,λi hi hn=>(k.block i (Nat.lt_of_lt_of_le hi h.size) hn).trans (h.block i hi hn)⟩
theorem Kp.of{p:Nat}{w w':World}(h:Below w.heap.size w w'):Kp p w w':=⟨h.os,h.tape,h.output,h.size,λi hi _=>h.block i hi⟩
theorem Kp.alloc{p:Nat}{w w':World}(h:Kp p w w')(o:Obj):Kp p w (w'.alloc o):=h.trans (Kp.of ((Below.refl _ _).alloc (Nat.le_refl _) o))
theorem Kp.below{p:Nat}{w w':World}(h:Kp p w w')(hp:p<w.heap.size):Below p w w':=⟨h.os,h.tape,h.output,h.size,λk hk=>h.block k (by omega) (λe=>by cases e;omega)⟩
theorem zi.kp{p:Nat}{w w':World}{g t:Nat}{cs:Array Value}(h:zi w g t cs)(hk:Kp p w w')(hne:g≠p):zi w' g t cs:=h.grown hk hne
def Fw(w:World)(g off:Nat)(ts:zt):Prop:=∀i (hi:i<ts.length) j,j<4→w.cell? ⟨g,off+i*4+j,none⟩=(jy ts[i].1 ts[i].2)[j]?
theorem xX.kp{p:Nat}{w w':World}{v:Value}{l:List (List UInt8)}(h:xX w v l)(hk:Kp p w w')(hne:v.ownBlock≠some p):xX w' v l:=by
 rcases h with h|⟨g,rfl,h⟩
 ·exact .inl h
 ·exact .inr ⟨g,rfl,h.kp hk (λe=>hne (by rw[←e];rfl))⟩
theorem Kp.setNew{p:Nat}{w w':World}(h:Kp p w w'){q:Addr}(hq:w.heap.size≤q.block)(v:Value):Kp p w (w'.setCell q v):=
 ⟨h.os,h.tape,h.output,by have:=h.size;simpa using this,λk hk hn=>(Below.heap_setCell w' q v k (by omega)).trans (h.block k hk hn)⟩
theorem Kp.setP{p:Nat}{w w':World}(h:Kp p w w')(j:Nat)(v:Value):Kp p w (w'.setCell ⟨p,j,none⟩ v):=
 ⟨h.os,h.tape,h.output,by have:=h.size;simpa using this,λk hk hn=>(Below.heap_setCell w' ⟨p,j,none⟩ v k (λe=>hn (by rw[e]))).trans (h.block k hk hn)⟩
theorem zi.putP{w:World}{g t:Nat}{cs:Array Value}(h:zi w g t cs)(j:Nat)(v:Value):zi (w.setCell ⟨g,j,none⟩ v) g t (cs.setIfInBounds j v):=by
 have h':w.heap[g]?=some (.cells cs t (0,0)):=h;show(w.setCell ⟨g,j,none⟩ _).heap[g]?=_;simp only[World.setCell,Array.getElem?_modify,h',if_pos,Option.map_some];rfl
theorem VF{fn:Func}{R:Ending→World→Prop}{a:Act}{W:World}{s g:Nat}{x0 x1 x2 x3:Value}(hr:fn.results= #[.cell s 79])(hs:a.tmps[s]?.getD undef= .pointer (some ⟨g,0,none⟩))(hH:zi W g 79 #[x0,x1,x2,x3])(hd:a.defers= [])(h:R (.returned (.agg #[x0,x1,x2,x3])) W):bodyPost Tryz.prog fn R .ret a W:=by
 have q0:=hH.cell 0;have q1:=hH.cell 1;have q2:=hH.cell 2;have q3:=hH.cell 3;exact bodyPost_ret (by simp only[results,hr];simp[hs,go_sem,q0,q1,q2,q3]) hd h
theorem qF{fn:Func}{R:Ending→World→Prop}{a:Act}{W:World}{s g:Nat}{x0 x1 x2 x3 x4:Value}(hr:fn.results= #[.cell s 24])(hs:a.tmps[s]?.getD undef= .pointer (some ⟨g,0,none⟩))(hH:zi W g 24 #[x0,x1,x2,x3,x4])(hd:a.defers= [])(h:R (.returned (.agg #[x0,x1,x2,x3,x4])) W):bodyPost Tryz.prog fn R .ret a W:=by
 have q0:=hH.cell 0;have q1:=hH.cell 1;have q2:=hH.cell 2;have q3:=hH.cell 3;have q4:=hH.cell 4;exact bodyPost_ret (by simp only[results,hr];simp[hs,go_sem,q0,q1,q2,q3,q4]) hd h
theorem zi.set4{w:World}{g t:Nat}{a b c d:Value}(h:zi w g t #[a,b,c,d])(x0 x1 x2 x3:Value):zi ((((w.setCell ⟨g,0,none⟩ x0).setCell ⟨g,1,none⟩ x1).setCell ⟨g,2,none⟩ x2).setCell ⟨g,3,none⟩ x3) g t #[x0,x1,x2,x3]:=by
 have:=(((h.putP 0 x0).putP 1 x1).putP 2 x2).putP 3 x3
 simpa using this
theorem zi.set5{w:World}{g t:Nat}{a b c d e:Value}(h:zi w g t #[a,b,c,d,e])(x0 x1 x2 x3 x4:Value):zi (((((w.setCell ⟨g,0,none⟩ x0).setCell ⟨g,1,none⟩ x1).setCell ⟨g,2,none⟩ x2).setCell ⟨g,3,none⟩ x3).setCell ⟨g,4,none⟩ x4) g t #[x0,x1,x2,x3,x4]:=by
 have:=((((h.putP 0 x0).putP 1 x1).putP 2 x2).putP 3 x3).putP 4 x4
 simpa using this
theorem Fw.kp{w w':World}{p g off:Nat}{ts:zt}(h:Fw w g off ts)(hk:Kp p w w')(hg:g≠p)(hl:g<w.heap.size):Fw w' g off ts:=
 λi hi j hj=>(World.cell?_of_block (hk.block g hl (λe=>hg (by cases e;rfl)))).trans (h i hi j hj)
def qa(n:Nd)(v:Value):Array Value:=#[.string (bs n.op),.string (bs n.s),.int .i64 n.n,.int .i64 n.a,v]
def xN(l:List Nd)(vs:List Value):List Value:=(l.zip vs).flatMap λx=>(qa x.1 x.2).toList
inductive j6 (w:World) (P:Nat→Prop):List Nd→Value→Prop where
 |mk (l:List Nd) (vs:List Value) (v:Value):vs.length=l.length→w.ownsRow 0 24 5 v l.length (xN l vs)→(∀g,v.ownBlock=some g→P g) →
   (∀i (h:i<l.length) (h':i<vs.length),j6 w P l[i].l vs[i])→j6 w P l v
theorem j6.keep{w w':World}{P:Nat→Prop}{l:List Nd}{v:Value}(h:j6 w P l v)(hk:∀g o,P g→w.heap[g]?=some o→w'.heap[g]?=some o):j6 w' P l v:=by
 induction h with
 |mk l vs v h1 h2 h3 h4 ih=>exact .mk l vs v h1 (zE h2 (λg o e ho=>hk g o (h3 g e) ho)) h3 ih
theorem j6.mono{w:World}{P Q:Nat→Prop}{l:List Nd}{v:Value}(h:j6 w P l v)(hk:∀g,P g→Q g):j6 w Q l v:=by
 induction h with
 |mk l vs v h1 h2 h3 h4 ih=>exact .mk l vs v h1 h2 (λg e=>hk g (h3 g e)) ih
theorem j6.imp{w:World}{P Q:Nat→Prop}{l:List Nd}{v:Value}(h:j6 w P l v)(hk:∀g,P g→g<w.heap.size→Q g):j6 w Q l v:=by
 induction h with
 |mk l vs v h1 h2 h3 h4 ih=>exact .mk l vs v h1 h2 (λg e=>hk g (h3 g e) (qo h2 e).1) ih
theorem j6.grow{w w':World}{P:Nat→Prop}{l:List Nd}{v:Value}(h:j6 w P l v)(hb:Below w.heap.size w w'):j6 w' P l v:=
 h.keep λg o _ ho=>(hb.block g (Array.getElem?_eq_some_iff.1 ho).1).trans ho
theorem j6.kp{w w':World}{P:Nat→Prop}{l:List Nd}{v:Value}{p:Nat}(h:j6 w P l v)(hb:Kp p w w')(hp:∀g,P g→g≠p):j6 w' P l v:=
 h.keep λg o hg ho=>(hb.block g (Array.getElem?_eq_some_iff.1 ho).1 (λe=>hp g hg (by cases e;rfl))).trans ho
theorem j6.nil(w:World)(P:Nat→Prop):j6 w P [] (.slice none 0 0):= .mk [] [] _ rfl ⟨rfl,.inl ⟨rfl,rfl⟩⟩ (λg e=>by cases e) (λi h=>by simp at h)
theorem j6.slice{w:World}{P:Nat→Prop}{l:List Nd}{v:Value}(h:j6 w P l v):∃A C,v= .slice A l.length C:=by
 cases h with
 |mk l vs v h1 h2 h3 h4 =>
  rcases h2.2 with⟨rfl,h0⟩|⟨g,cap,cur,rfl,_⟩
  ·exact⟨none,0,by rw[h0]⟩
  ·exact⟨_,_,rfl⟩
theorem QG(n:Nd)(l:List Nd)(v:Value)(vs:List Value):xN (n::l) (v::vs)=(qa n v).toList++xN l vs:=by simp[xN]
theorem Jn(l m:List Nd)(vs us:List Value)(h:vs.length=l.length):xN (l++m) (vs++us)=xN l vs++xN m us:=by
 unfold xN;rw[List.zip_append h.symm,List.flatMap_append]
theorem kr(n:Nd)(v:Value):xN [n] [v]=(qa n v).toList:=by simp[xN]
theorem Vt(l:List Nd):∀(vs:List Value) (i:Nat) (h:i<l.length) (h':i<vs.length) (j:Nat),j<5→(xN l vs)[i*5+j]?=(qa l[i] vs[i])[j]?:=by
 induction l with
 |nil=>intro vs i h;simp at h
 |cons n l ih =>
  intro vs i h h' j hj;cases vs with
  |nil=>simp at h'
  |cons v vs =>
   rw[QG];have e5:(qa n v).toList.length=5:=rfl;cases i with
   |zero=>rw[List.getElem?_append_left (by rw[e5];omega)];simp
   |succ i =>
    simp only[List.length_cons]at h h';rw[List.getElem?_append_right (by rw[e5];omega),e5,show(i+1)*5+j-5=i*5+j by omega,ih vs i (by omega) (by omega) j hj];simp
theorem Uc(n:Nd)(A:Option Addr)(L C:Nat):∀u ∈ (qa n (.slice A L C)).toList,u.oneCell'=true:=by
 intro u hu;simp[qa]at hu;rcases hu with rfl|rfl|rfl|rfl|rfl<;>rfl
def yg(w:World)(base:Nat)(l:List Nd)(v:Value):Prop:=∃vs,vs.length=l.length∧w.ownsRow base 24 5 v l.length (xN l vs)∧∀i (h:i<l.length) (h':i<vs.length),j6 w (λg=>base≤g∧v.ownBlock≠some g) l[i].l vs[i]
theorem yg.nil(w:World)(base:Nat):yg w base [] (.slice none 0 0):=⟨[],rfl,⟨rfl,.inl ⟨rfl,rfl⟩⟩,λi h=>by simp at h⟩
theorem yg.done{w:World}{base:Nat}{l:List Nd}{v:Value}(h:yg w base l v):j6 w (λg=>base≤g) l v:=by
 obtain⟨vs,h1,h2,h3⟩:=h;refine .mk l vs v h1 ⟨h2.1,?_⟩ (λg e=>(qo h2 e).2) (λi h h'=>(h3 i h h').mono λg hg=>hg.1);rcases h2.2 with h0|⟨g,cap,cur,hv,hb,r⟩
 ·exact .inl h0
 ·exact .inr ⟨g,cap,cur,hv,Nat.zero_le _,r⟩
theorem yg.slice{w:World}{base:Nat}{l:List Nd}{v:Value}(h:yg w base l v):∃A C,v= .slice A l.length C:=h.done.slice
theorem yg.kp{w w':World}{base p:Nat}{l:List Nd}{v:Value}(h:yg w base l v)(hk:Kp p w w')(hp:p<base):yg w' base l v:=by
 obtain⟨vs,h1,h2,h3⟩:=h;exact⟨vs,h1,zE h2 (λg o e ho=>(hk.block g (qo h2 e).1 (λe'=>by have:=(qo h2 e).2;cases e';omega)).trans ho),λi h h'=>(h3 i h h').kp hk (λg hg=>by omega)⟩
theorem Tryz.infoNode:(Tryz.prog.info? 24).map (λi=>(i.zero,i.size,i.bytes))=some (some (.agg #[.string ⟨#[]⟩,.string ⟨#[]⟩,.int .i64 0,.int .i64 0,.slice none 0 0]),5,72):=by kernel_rfl
theorem ZP{P:Program}{w:World}{base:Nat}{t ty e:TypeId}{i:TypeInfo}{z:Value}{size:Nat}(ht:P.underlying t=some (.slice e))(hi:P.info? e=some i)(hz:i.zero=some z)(hsize:i.size=size)(hsz:0<size)
 {v:Value} {n:Nat} {xs:List Value} (hown:w.ownsRow base e size v n xs) {ad:Addr} {m c:Nat} {news:List Value} (hl:news.length=m*size) (hnews:∀j u,news[j]?=some u→w.cell? (ad.add j)=some u) (h1:∀u ∈ news,u.oneCell'=true)
 (h63:n+m≤maxLen) (hbytes:(n+m)*i.bytes≤140737488355328) (hm:0<m) {v':Value} {w':World} (hr:(Builtin.append_ #[t,t] ty #[v,.slice (some ad) m c]).run P w= .ok v' w'):v'.ownBlock=v.ownBlock∨v'.ownBlock=some w.heap.size:=by
 subst hsize;have hsmall:n+m≤9223372036854775807:=by simp only[maxLen]at h63;omega
 rcases hown.2 with⟨rfl,rfl⟩|⟨g,cap,cur,rfl,hbg,hg,hnc,hcm,hcs,htake⟩
 ·have hr2:=run_append_nil (P:=P) w t ty e i z ht hi hz ad m c news hl hnews (by omega) (by omega) (by have hb:=hbytes;simp only[Nat.zero_add]at hb;omega)
  rw[hr2]at hr;cases hr;exact .inr rfl
 ·by_cases hroom:n+m≤cap
  ·have hfit:n*i.size+news.length≤cur.size:=by rw[hl,hcs,←Nat.add_mul];exact Nat.mul_le_mul_right _ hroom
   have hr2:=run_append_room (P:=P) w t ty e i ht hi g n cap cur hg ad m c news hl hnews h1 hroom hfit;rw[hr2]at hr;cases hr;exact .inl rfl
  ·have holds:∀j u,xs[j]?=some u→w.cell? ((⟨g,0,none⟩:Addr).add j)=some u:=hown.cells (g:=g) rfl
   have hr2:=run_append_grow (P:=P) w t ty e i z ht hi hz ⟨g,0,none⟩ n cap xs hown.1 holds ad m c news hl hnews (by omega) (by omega) (growslice_fits (by omega) hbytes);rw[hr2]at hr;cases hr;exact .inr rfl
theorem yg.ne{w:World}{base:Nat}{l:List Nd}{v:Value}(h:yg w base l v){q t:Nat}{cs:Array Value}(hq:zi w q t cs)(ht:t≠24):v.ownBlock≠some q:=by
 obtain⟨vs,h1,h2,h3⟩:=h;rcases h2.2 with⟨rfl,_⟩|⟨g,cap,cur,rfl,_,hg,_⟩
 ·intro e;cases e
 ·intro e
  have e':g=q:=by cases e;rfl
  subst e';have hq':w.heap[g]?=some (.cells cs t (0,0)):=hq;rw[hg]at hq';cases hq';exact ht rfl
theorem zi.ne{w:World}{g q t u:Nat}{cs ds:Array Value}(h:zi w g t cs)(k:zi w q u ds)(ht:t≠u):g≠q:=by
 rintro rfl;have h':w.heap[g]?=some (.cells cs t (0,0)):=h;have k':w.heap[g]?=some (.cells ds u (0,0)):=k;rw[h']at k';cases k';exact ht rfl
theorem yg.lt{w:World}{base:Nat}{l:List Nd}{v:Value}(h:yg w base l v){g:Nat}(e:v.ownBlock=some g):g<w.heap.size:=by
 obtain⟨vs,h1,h2,h3⟩:=h;exact(qo h2 e).1
theorem j6.single{W:World}{P:Nat→Prop}{n:Nd}{v:Value}{G:Nat}(hG:zi W G 24 (qa n v))(hP:P G)(hn:j6 W P n.l v):j6 W P [n] (.slice (some ⟨G,0,none⟩) 1 1):=by
 refine .mk [n] [v] _ rfl ⟨by rw[kr];rfl,.inr ⟨G,1,_,rfl,Nat.zero_le _,hG,Nat.le_refl _,by decide,rfl,?_⟩⟩ (λg e=>by cases e;exact hP) (λi h h'=>?_)
 ·rw[kr];rfl
 ·have :i=0:=by simp at h;omega
  subst this;exact hn
structure zw (w:World) (rb:Nat) (A:Option Addr) (C:Nat) (ts:zt) (i en:Nat) (bad k:Int):Prop where
 has:zi w rb 54 #[.slice A ts.length C,.int .i64 (i:Nat),.int .i64 (en:Nat),.int .i64 bad,.int .i64 k]
 tok:∀j,j<ts.length→∃g off,A=some ⟨g,off,none⟩∧g<w.heap.size∧g≠rb∧Fw w g off ts
 le:i≤ts.length
 few:ts.length≤500
 end':en≤2000
theorem kM{ts:zt}{i en:Nat}(h:¬i<ts.length):Zv en (ts.drop i)=en:=by
 rw[List.drop_eq_nil_of_le (by omega)];rfl
theorem jn{ts:zt}{i en:Nat}(h:i<ts.length):Zv en (ts.drop i)=ts[i].2:=by
 rw[List.drop_eq_getElem_cons h];rfl
theorem ji{w:World}{rb:Nat}{A:Option Addr}{C:Nat}{ts:zt}{i en:Nat}{bad k:Int}(h:zw w rb A C ts i en bad k):Calls Tryz.prog 27 #[.pointer (some ⟨rb,0,none⟩)] w λe w'=>e= .returned (.int .i64 (Zv en (ts.drop i):Nat))∧∃q,w'=w.drewN q:=by
 have c0:=h.has.cell 0;have c1:=h.has.cell 1;have c2:=h.has.cell 2;simp only[qt,qu,qr]at c0 c1 c2;have hlt:=h.has.lt;have hf:=h.few;have hle:=h.le;by_cases hi:i<ts.length
 ·obtain⟨g,off,rfl,hg,hne,htk⟩:=h.tok i hi
  rw[jn hi];have t3:=htk i hi 3 (by decide);generalize ts[i]=t at t3 ⊢;generalize ts.length=L at *;have hii:(i:Int)<(L:Int):=by omega
  obtain⟨⟨tk,tss,tn⟩,ta⟩:=t;simp only[jy,List.getElem?_toArray,List.getElem?_cons_zero,List.getElem?_cons_succ]at t3;clear h htk;go_enter Tryz.func27,Tryz.ntmps27
  go_wp2
  go_quiet (fail)
  go_wp2
  go_quiet (fail)
  go_wp2
  go_ret
  exact⟨rfl,_,World.drewN_drewN _ _ _⟩
 ·rw[kM hi]
  generalize ts.length=L at *;have hii:¬(i:Int)<(L:Int):=by omega
  clear h;go_enter Tryz.func27,Tryz.ntmps27
  go_wp2
  go_quiet (fail)
  go_wp2
  go_ret
  exact⟨rfl,_,rfl⟩
def ki(ts:zt)(i:Nat)(s:List UInt8):Bool:=match ts[i]? with
 |none=>false
 |some t=>(t.1.kind==0||t.1.kind==3)&&t.1.s==s
theorem fY{w:World}{rb:Nat}{A:Option Addr}{C:Nat}{ts:zt}{i en:Nat}{k:Int}(h:zw w rb A C ts i en 0 k)(s:List UInt8):Calls Tryz.prog 28 #[.pointer (some ⟨rb,0,none⟩),.string (bs s)] w λe w'=>e= .returned (.bool (ki ts i s))∧∃q,w'=w.drewN q:=by
 have c0:=h.has.cell 0;have c1:=h.has.cell 1;have c3:=h.has.cell 3;simp only[qt,qu,qr]at c0 c1 c3;have hlt:=h.has.lt;have hf:=h.few;have hle:=h.le;unfold ki;by_cases hi:i<ts.length
 ·obtain⟨g,off,rfl,hg,hne,htk⟩:=h.tok i hi
  rw[List.getElem?_eq_getElem hi];have t0:=htk i hi 0 (by decide);have t1:=htk i hi 1 (by decide);generalize ts[i]=t at t0 t1 ⊢;generalize ts.length=L at *;have hii:(i:Int)<(L:Int):=by omega
  obtain⟨⟨tk,tss,tn⟩,ta⟩:=t;simp only[jy,List.getElem?_toArray,List.getElem?_cons_zero,List.getElem?_cons_succ]at t0 t1 ⊢;have hx:=zp tss;have hy:=zp s;rw[Nat.add_zero]at t0;clear h htk;by_cases k0:tk=0
  ·have k1:((tk:Nat):Int)=0:=by omega
   cases hc:(tss==s)
   all_goals
    go_enter Tryz.func28,Tryz.ntmps28
    go_wp2
    go_quiet (fail)
    go_wp2
    go_ret
    exact⟨by simp[k0],_,rfl⟩
  ·have k1:¬((tk:Nat):Int)=0:=by omega
   by_cases k3:tk=3
   ·have k4:((tk:Nat):Int)=3:=by omega
    cases hc:(tss==s)
    all_goals
     go_enter Tryz.func28,Tryz.ntmps28
     go_wp2
     go_quiet (fail)
     go_wp2
     go_ret
     exact⟨by simp[k3],_,rfl⟩
   ·have k4:¬((tk:Nat):Int)=3:=by omega
    go_enter Tryz.func28,Tryz.ntmps28
    go_wp2
    go_quiet (fail)
    go_wp2
    go_ret
    exact⟨by simp[k0,k3],_,rfl⟩
 ·rw[List.getElem?_eq_none (by omega)]
  generalize ts.length=L at *;have hii:¬(i:Int)<(L:Int):=by omega
  clear h;go_enter Tryz.func28,Tryz.ntmps28
  go_wp2
  go_quiet (fail)
  go_wp2
  go_ret
  exact⟨rfl,_,rfl⟩
end
section
def zT{α:Type}(bad:Int)(R:PR α)(ts:zt)(x:α)(i':Nat)(bad':Int):Prop:=
 if bad=0 then(match R with
  | .ok (y,r)=>x=y∧ts.drop i'=r∧bad'=0
  | .error _=>bad'≠0)else bad'≠0
theorem zT.bind{α β:Type}{P:jY α}{f:α→jY β}{en:Nat}{ts:zt}{bad bad1 bad2:Int}{i i1 i2:Nat}{x:α}{y:β}(h1:zT bad (P en (ts.drop i)) ts x i1 bad1)(h2:zT bad1 (f x en (ts.drop i1)) ts y i2 bad2):zT bad (zx P f en (ts.drop i)) ts y i2 bad2:=by
 unfold zT at *;unfold zx;by_cases hb:bad=0
 ·rw[if_pos hb]at h1 ⊢
  cases hP:P en (ts.drop i)with
  |error e =>
   rw[hP]at h1;simp only at h1 ⊢;rw[if_neg h1]at h2;exact h2
  |ok r =>
   obtain⟨y',r⟩:=r;rw[hP]at h1;obtain⟨rfl,e2,e3⟩:=h1;rw[if_pos e3,e2]at h2;exact h2
 ·rw[if_neg hb]at h1 ⊢
  rw[if_neg h1]at h2;exact h2
theorem zT.ret{α:Type}(bad:Int)(x:α)(en:Nat)(ts:zt)(i:Nat):zT bad (jw x en (ts.drop i)) ts x i bad:=by
 unfold zT jw;by_cases hb:bad=0
 ·rw[if_pos hb];exact⟨rfl,rfl,hb⟩
 ·rw[if_neg hb];exact hb
theorem zT.map{α β:Type}{P:jY α}(f:α→β){en:Nat}{ts:zt}{bad bad1:Int}{i i1:Nat}{x:α}(h1:zT bad (P en (ts.drop i)) ts x i1 bad1):zT bad (zx P (λx=>jw (f x)) en (ts.drop i)) ts (f x) i1 bad1:=h1.bind (zT.ret bad1 (f x) en ts i1)
theorem zT.bad{α:Type}{bad bad':Int}(h:bad≠0)(h':bad'≠0)(R:PR α)(ts:zt)(x:α)(i':Nat):zT bad R ts x i' bad':=by
 unfold zT;rw[if_neg h];exact h'
theorem zT.err{α:Type}{bad bad':Int}{R:PR α}{e:Nat×Nat}(hR:R= .error e)(h':bad'≠0)(ts:zt)(x:α)(i':Nat):zT bad R ts x i' bad':=by
 unfold zT;rw[hR];by_cases h:bad=0
 ·rw[if_pos h];exact h'
 ·rw[if_neg h];exact h'
theorem zT.ok{α:Type}{R:PR α}{ts:zt}{x:α}{i':Nat}(hR:R= .ok (x,ts.drop i')):zT 0 R ts x i' 0:=by
 unfold zT;rw[hR,if_pos rfl];exact⟨rfl,rfl,rfl⟩
theorem zT.stays{α:Type}{bad bad':Int}{R:PR α}{ts:zt}{x:α}{i':Nat}(h:zT bad R ts x i' bad')(hb:bad≠0):bad'≠0:=by
 unfold zT at h;rw[if_neg hb]at h;exact h
theorem zT.was{α:Type}{bad bad':Int}{R:PR α}{ts:zt}{x:α}{i':Nat}(h:zT bad R ts x i' bad')(hb:bad'=0):bad=0∧R= .ok (x,ts.drop i'):=by
 by_cases e:bad=0
 ·refine⟨e,?_⟩
  unfold zT at h;rw[if_pos e]at h;cases R with
  |error e=>exact absurd hb h
  |ok r =>
   obtain⟨y,r⟩:=r;obtain⟨rfl,rfl,_⟩:=h;rfl
 ·exact absurd hb (h.stays e)
theorem xP{p:Tk→Bool}{en:Nat}{ts:zt}{i:Nat}(hi:i<ts.length)(hp:p ts[i].1=true):zT 0 (zB p en (ts.drop i)) ts ts[i] (i+1) 0:=by
 apply zT.ok;rw[List.drop_eq_getElem_cons hi];simp only[zB];rw[if_pos hp]
theorem xS{p:Tk→Bool}{en:Nat}{ts:zt}{i:Nat}{bad bad':Int}(h:bad≠0∨je p (ts.drop i)=false)(h':bad'≠0)(x:Tk×Nat)(i':Nat):zT bad (zB p en (ts.drop i)) ts x i' bad':=by
 rcases h with h|h
 ·exact zT.bad h h' _ _ _ _
 ·cases hd:ts.drop i with
  |nil=>exact zT.err (e:=(111,en)) rfl h' _ _ _
  |cons t r =>
   rw[hd]at h;refine zT.err (e:=(111,t.2)) ?_ h' _ _ _;simp only[zB];rw[if_neg (by simpa [je]using h)]
theorem qh{p:Tk→Bool}{ts:zt}{i:Nat}(hi:i<ts.length):je p (ts.drop i)=p ts[i].1:=by
 rw[List.drop_eq_getElem_cons hi];rfl
theorem vi{p:Tk→Bool}{ts:zt}{i:Nat}(hi:¬i<ts.length):je p (ts.drop i)=false:=by
 rw[List.drop_eq_nil_of_le (by omega)];rfl
def xy(pe:jY Nd)(en:Nat)(ts:zt)(bad0:Int)(i0:Nat)(l:List Nd)(i:Nat)(bad:Int):Prop:=
 ∀(m:List Nd) (i':Nat) (bad':Int),(∀F,ts.length-i<F→zT bad (xi pe F en (ts.drop i)) ts m i' bad')→∀F,ts.length-i0<F→zT bad0 (xi pe F en (ts.drop i0)) ts (l++m) i' bad'
theorem xy.start(pe:jY Nd)(en:Nat)(ts:zt)(bad0:Int)(i0:Nat):xy pe en ts bad0 i0 [] i0 bad0:=λm i' bad' h F hF=>h F hF
theorem xy.next{pe:jY Nd}{en:Nat}{ts:zt}{bad0:Int}{i0:Nat}{l:List Nd}{i:Nat}(h:xy pe en ts bad0 i0 l i 0)(hi:i<ts.length)(hc:kq ts[i].1=true){x:Nd}{i2:Nat}{bad2:Int}(hx:zT 0 (pe en (ts.drop (i+1))) ts x i2 bad2)(hle:i+1≤i2):xy pe en ts bad0 i0 (l++ [x]) i2 bad2:=by
 intro m i' bad' hm F hF;rw[List.append_assoc];refine h ([x]++m) i' bad' (λF' hF'=>?_) F hF
 obtain⟨F1,rfl⟩:∃F1,F'=F1+1:=⟨F'-1,by omega⟩
 show zT 0 (Vn kq _ _ en (ts.drop i)) ts _ i' bad';unfold Vn;rw[if_pos (by rw[qh hi];exact hc)];exact(xP hi hc).bind (hx.bind ((hm F1 (by omega)).map (λl=>x::l)))
theorem xy.stop{pe:jY Nd}{en:Nat}{ts:zt}{bad0:Int}{i0:Nat}{l:List Nd}{i:Nat}{bad:Int}(h:xy pe en ts bad0 i0 l i bad)(hc:bad≠0∨je kq (ts.drop i)=false)(F:Nat)(hF:ts.length-i0<F):zT bad0 (xi pe F en (ts.drop i0)) ts l i bad:=by
 have:=h [] i bad (λF' hF'=>?_) F hF
 ·simpa using this
 ·rcases hc with hc|hc
  ·exact zT.bad hc hc _ _ _ _
  ·obtain⟨F1,rfl⟩:∃F1,F'=F1+1:=⟨F'-1,by omega⟩
   show zT bad (Vn kq _ _ en (ts.drop i)) ts _ i bad;unfold Vn;rw[if_neg (by rw[hc];decide)];exact zT.ret bad [] en ts i
def ZE(en:Nat)(ts:zt)(l:List Nd)(i:Nat)(bad:Int):Prop:=
 ∀(m:List Nd) (i':Nat) (bad':Int),(∀F,ts.length-i<F→zT bad (jF F en (ts.drop i)) ts m i' bad')→∀F,ts.length<F→zT 0 (jF F en ts) ts (l++m) i' bad'
theorem ZE.start(en:Nat)(ts:zt):ZE en ts [] 0 0:=λm i' bad' h F hF=>by simpa using h F (by simpa using hF)
theorem ZE.next{en:Nat}{ts:zt}{l:List Nd}{i:Nat}(h:ZE en ts l i 0)(hi:i<ts.length){x:Nd}{i2:Nat}{bad2:Int}(hx:zT 0 (qy en (ts.drop i)) ts x i2 bad2)(hle:bad2=0→i+1≤i2):ZE en ts (l++ [x]) i2 bad2:=by
 intro m i' bad' hm F hF;rw[List.append_assoc];refine h ([x]++m) i' bad' (λF' hF'=>?_) F hF
 obtain⟨F1,rfl⟩:∃F1,F'=F1+1:=⟨F'-1,by omega⟩
 have e:jF (F1+1) en (ts.drop i)=(zx qy λn=>zx (jF F1) λl=>jw (n::l)) en (ts.drop i):=by
  rw[List.drop_eq_getElem_cons hi];rfl
 rw[e];by_cases hb:bad2=0
 ·exact hx.bind ((hm F1 (by have:=hle hb;omega)).map (λl=>x::l))
 ·have hb':bad'≠0:=by
   have:=hm (ts.length+1) (by omega);exact this.stays hb
  exact hx.bind (zT.bad hb hb' _ _ _ _)
theorem ZE.stop{en:Nat}{ts:zt}{l:List Nd}{i:Nat}{bad:Int}(h:ZE en ts l i bad)(hc:bad≠0∨¬i<ts.length):zT 0 (jF 501 en ts) ts l i bad∨500<ts.length:=by
 by_cases hl:500<ts.length
 ·exact .inr hl
 ·refine .inl ?_
  have:=h [] i bad (λF' hF'=>?_) 501 (by omega)
  ·simpa using this
  ·rcases hc with hc|hc
   ·exact zT.bad hc hc _ _ _ _
   ·obtain⟨F1,rfl⟩:∃F1,F'=F1+1:=⟨F'-1,by omega⟩
    rw[List.drop_eq_nil_of_le (by omega)];unfold zT;by_cases hb:bad=0
    ·rw[if_pos hb]
     exact⟨rfl,List.drop_eq_nil_of_le (by omega),hb⟩
    ·rw[if_neg hb];exact hb
end
section
open Go.ChangeShapes Go.WideShapes Go.ChangeAt Go.RowKit
theorem gL{w:World}{rb:Nat}{A:Option Addr}{C:Nat}{ts:zt}{i en:Nat}{bad k:Int}(h:zw w rb A C ts i en bad k)(hb:bad≠0)(s:List UInt8):Calls Tryz.prog 28 #[.pointer (some ⟨rb,0,none⟩),.string (bs s)] w λe w'=>e= .returned (.bool false)∧∃q,w'=w.drewN q:=by
 have c0:=h.has.cell 0;have c1:=h.has.cell 1;have c3:=h.has.cell 3;simp only[qt,qu,qr]at c0 c1 c3;have hlt:=h.has.lt;generalize ts.length=L at *;have hd:decide (bad=0)=false:=decide_eq_false hb;have hd2:(bad==0)=false:=by simpa using hb
 clear h;go_enter Tryz.func28,Tryz.ntmps28
 go_wp2
 go_quiet (fail)
 go_wp2
 go_ret
 exact⟨rfl,_,rfl⟩
theorem zw.set{w w':World}{rb:Nat}{A:Option Addr}{C:Nat}{ts:zt}{i i' en:Nat}{bad k bad' k':Int}(h:zw w rb A C ts i en bad k)(hk:Kp rb w w')(hh:zi w' rb 54 #[.slice A ts.length C,.int .i64 (i':Nat),.int .i64 (en:Nat),.int .i64 bad',.int .i64 k'])(hi:i'≤ts.length):zw w' rb A C ts i' en bad' k':=
 ⟨hh,λj hj=>by
   obtain⟨g,off,e,hg,hne,ht⟩:=h.tok j hj
   exact⟨g,off,e,Nat.lt_of_lt_of_le hg hk.size,hne,ht.kp hk hne hg⟩,hi,h.few,h.end'⟩
theorem Kp.refl'(p:Nat)(w:World):Kp p w w:=Kp.of (Below.refl _ _)
theorem zw.drewN{w:World}{rb:Nat}{A:Option Addr}{C:Nat}{ts:zt}{i en:Nat}{bad k:Int}(h:zw w rb A C ts i en bad k)(q:Nat):zw (w.drewN q) rb A C ts i en bad k:=⟨h.has,h.tok,h.le,h.few,h.end'⟩
theorem Kp.drewN{p:Nat}{w w':World}(h:Kp p w w')(q:Nat):Kp p w (w'.drewN q):=⟨h.os,h.tape,h.output,h.size,h.block⟩
theorem zw.kp{w w':World}{rb:Nat}{A:Option Addr}{C:Nat}{ts:zt}{i en:Nat}{bad k:Int}(h:zw w rb A C ts i en bad k)(hb:Below w.heap.size w w'):zw w' rb A C ts i en bad k:=h.set (Kp.of hb) (h.has.below hb h.has.lt) h.le
theorem ZA{w:World}{rb:Nat}{A:Option Addr}{C:Nat}{ts:zt}{i en:Nat}{bad k:Int}(h:zw w rb A C ts i en bad k)(er:Int)(her:er≠0):Calls Tryz.prog 29 #[.pointer (some ⟨rb,0,none⟩),.int .i64 er] w λe w'=>e= .returned (.tuple #[])∧∃bad' k',bad'≠0∧zw w' rb A C ts i en bad' k'∧Kp rb w w':=by
 have c3:=h.has.cell 3;have c4:=h.has.cell 4;simp only[qt,qu,qr]at c3 c4;have hlt:=h.has.lt;have f3:=h.has.free 3;have f4:=h.has.free 4;by_cases hb:bad=0
 ·subst hb
  have hw1:Kp rb w (w.setCell ⟨rb,3,none⟩ (.int .i64 er)):=(Kp.refl' rb w).setP 3 _;have h1:zw (w.setCell ⟨rb,3,none⟩ (.int .i64 er)) rb A C ts i en er k:=h.set hw1 (h.has.putP 3 _) h.le;go_enter Tryz.func29,Tryz.ntmps29
  go_wp2_with (first
   |((go_at_call 27)
     refine(ji h1).mono ?_;(rintro e w1 ⟨rfl,q,rfl⟩)))
  go_end0
  exact⟨rfl,er,_,her,(h1.drewN q).set ((Kp.refl' rb _).setP 4 _) ((h1.drewN q).has.putP 4 _) h.le,(hw1.drewN q).setP 4 _⟩
 ·have hd:decide (bad=0)=false:=decide_eq_false hb
  go_enter Tryz.func29,Tryz.ntmps29
  go_wp2
  go_end0
  exact⟨rfl,bad,k,hb,h,Kp.refl' _ _⟩
def qH(w:World)(rb:Nat)(A:Option Addr)(C:Nat)(ts:zt)(i en:Nat)(w':World)(i':Nat)(bad':Int):Prop:=i≤i'∧i'≤ts.length∧Kp rb w w'∧∃k',zi w' rb 54 #[.slice A ts.length C,.int .i64 (i':Nat),.int .i64 (en:Nat),.int .i64 bad',.int .i64 k']
theorem qH.at{w w':World}{rb:Nat}{A:Option Addr}{C:Nat}{ts:zt}{i i' en:Nat}{bad k bad':Int}(h:zw w rb A C ts i en bad k)(s:qH w rb A C ts i en w' i' bad'):∃k',zw w' rb A C ts i' en bad' k':=by
 obtain⟨_,h2,h3,k',h4⟩:=s;exact⟨k',h.set h3 h4 h2⟩
theorem qH.of{w w':World}{rb:Nat}{A:Option Addr}{C:Nat}{ts:zt}{i i' en:Nat}{bad' k':Int}(hi:i≤i')(hk:Kp rb w w')(h:zw w' rb A C ts i' en bad' k'):qH w rb A C ts i en w' i' bad':=⟨hi,h.le,hk,k',h.has⟩
theorem qH.trans{w w1 w2:World}{rb:Nat}{A:Option Addr}{C:Nat}{ts:zt}{i i1 i2 en:Nat}{b1 b2:Int}(h:qH w rb A C ts i en w1 i1 b1)(k:qH w1 rb A C ts i1 en w2 i2 b2):qH w rb A C ts i en w2 i2 b2:=⟨Nat.le_trans h.1 k.1,k.2.1,h.2.2.1.trans k.2.2.1,k.2.2.2⟩
theorem yL{p:Nat}{w w':World}{o:Obj}(h:Kp p (w.alloc o) w'):Kp p w w':=(Kp.of ((Below.refl _ _).alloc (Nat.le_refl _) o)).trans h
theorem qH.left{w w1:World}{rb:Nat}{A:Option Addr}{C:Nat}{ts:zt}{i i' en:Nat}{bad':Int}{o:Obj}(h:qH (w.alloc o) rb A C ts i en w1 i' bad'):qH w rb A C ts i en w1 i' bad':=⟨h.1,h.2.1,yL h.2.2.1,h.2.2.2⟩
theorem qH.new{w w1:World}{rb:Nat}{A:Option Addr}{C:Nat}{ts:zt}{i i' en:Nat}{bad':Int}(h:qH w rb A C ts i en w1 i' bad'){q:Addr}(hq:w.heap.size≤q.block)(hr:rb<w.heap.size)(v:Value):qH w rb A C ts i en (w1.setCell q v) i' bad':=by
 obtain⟨h1,h2,h3,k',h4⟩:=h;exact⟨h1,h2,h3.setNew hq v,k',h4.other (by omega) v⟩
theorem qH.alloc{w w1:World}{rb:Nat}{A:Option Addr}{C:Nat}{ts:zt}{i i' en:Nat}{bad':Int}(h:qH w rb A C ts i en w1 i' bad')(o:Obj):qH w rb A C ts i en (w1.alloc o) i' bad':=by
 obtain⟨h1,h2,h3,k',h4⟩:=h;exact⟨h1,h2,h3.alloc o,k',h4.alloc o⟩
theorem qH.below{w w1 w2:World}{rb:Nat}{A:Option Addr}{C:Nat}{ts:zt}{i i' en:Nat}{bad':Int}(h:qH w rb A C ts i en w1 i' bad'){B:Nat}(hb:Below B w1 w2)(hB:w.heap.size≤B)(hr:rb<w.heap.size):qH w rb A C ts i en w2 i' bad':=by
 obtain⟨h1,h2,h3,k',h4⟩:=h;exact⟨h1,h2,⟨hb.os.trans h3.os,hb.tape.trans h3.tape,hb.output.trans h3.output,Nat.le_trans h3.size hb.size,λk hk hn=>(hb.block k (by omega)).trans (h3.block k hk hn)⟩,k',h4.below hb (by omega)⟩
theorem qH.refl{w:World}{rb:Nat}{A:Option Addr}{C:Nat}{ts:zt}{i en:Nat}{bad k:Int}(h:zw w rb A C ts i en bad k):qH w rb A C ts i en w i bad:=⟨Nat.le_refl _,h.le,Kp.refl _ _,k,h.has⟩
theorem qH.drewN{w w1:World}{rb:Nat}{A:Option Addr}{C:Nat}{ts:zt}{i i' en:Nat}{bad':Int}(h:qH w rb A C ts i en w1 i' bad')(q:Nat):qH w rb A C ts i en (w1.drewN q) i' bad':=⟨h.1,h.2.1,h.2.2.1.drewN q,h.2.2.2⟩
def vJ(s:List UInt8)(t:Tk):Bool:=(t.kind==0||t.kind==3)&&t.s==s
theorem GE(ts:zt)(i:Nat)(s:List UInt8):ki ts i s=je (vJ s) (ts.drop i):=by
 unfold ki;by_cases hi:i<ts.length
 ·rw[List.getElem?_eq_getElem hi,qh hi];rfl
 ·rw[List.getElem?_eq_none (by omega),vi hi]
def jP(bad:Int)(ts:zt)(i:Nat)(s:List UInt8):Bool:=decide (bad=0)&&je (vJ s) (ts.drop i)
theorem jC{w:World}{rb:Nat}{A:Option Addr}{C:Nat}{ts:zt}{i en:Nat}{bad k:Int}(h:zw w rb A C ts i en bad k)(s:List UInt8):Calls Tryz.prog 28 #[.pointer (some ⟨rb,0,none⟩),.string (bs s)] w λe w'=>e= .returned (.bool (jP bad ts i s))∧∃q,w'=w.drewN q:=by
 unfold jP;by_cases hb:bad=0
 ·subst hb
  refine(fY h s).mono ?_;rintro e w' ⟨rfl,hw⟩;exact⟨by rw[GE];simp,hw⟩
 ·refine(gL h hb s).mono ?_
  rintro e w' ⟨rfl,hw⟩;exact⟨by simp[hb],hw⟩
theorem yR{bad:Int}{ts:zt}{i:Nat}{s:List UInt8}(h:jP bad ts i s=true):bad=0∧∃hi:i<ts.length,vJ s ts[i].1=true:=by
 unfold jP at h;simp only[Bool.and_eq_true,decide_eq_true_eq]at h;refine⟨h.1,?_⟩;by_cases hi:i<ts.length
 ·exact⟨hi,by have:=qh (p:=vJ s) hi;rw[←this];exact h.2⟩
 ·rw[vi hi]at h;cases h.2
theorem xQ{bad:Int}{ts:zt}{i:Nat}{s:List UInt8}(h:jP bad ts i s=false):bad≠0∨je (vJ s) (ts.drop i)=false:=by
 unfold jP at h;by_cases hb:bad=0
 ·right;simpa [hb]using h
 ·exact .inl hb
theorem ql{w:World}{rb:Nat}{A:Option Addr}{C:Nat}{ts:zt}{i en:Nat}{bad k:Int}(h:zw w rb A C ts i en bad k)(s:List UInt8):Calls Tryz.prog 32 #[.pointer (some ⟨rb,0,none⟩),.string (bs s)] w λe w'=>e= .returned (.tuple #[])∧∃i' bad',qH w rb A C ts i en w' i' bad'∧∃x,zT bad (zB (vJ s) en (ts.drop i)) ts x i' bad':=by
 cases hc:jP bad ts i s with
 |false =>
  have hs:=(jC h s)
  rw[hc]at hs;have hb:=xQ hc;go_enter Tryz.func32,Tryz.ntmps32
  go_wp2_with (first
   |((go_at_call 28)
     refine hs.mono ?_;(rintro e w1 ⟨rfl,q,rfl⟩))
   |((go_at_call 29)
     refine(ZA (h.drewN q) 111 (by decide)).mono ?_;(rintro e w1 ⟨rfl,bad',k',hb',h',hk⟩)))
  refine bodyPost_ret (results_none rfl _ _ _) rfl ?_;exact⟨rfl,i,bad',qH.of (Nat.le_refl _) ⟨hk.os,hk.tape,hk.output,hk.size,hk.block⟩ h',(⟨0,[],0⟩,0),xS hb hb' _ _⟩
 |true =>
  have hs:=(jC h s)
  rw[hc]at hs;obtain⟨rfl,hi,hp⟩:=yR hc;have c1:=h.has.cell 1;simp only[qt,qu,qr]at c1;have hlt:=h.has.lt;have f1:=h.has.free 1;have hf:=h.few;have hi2:(i:Int)<501:=by omega
  have R:∀q,∃i' bad',qH w rb A C ts i en ((w.drewN q).setCell ⟨rb,1,none⟩ (.int .i64 ((i:Int)+1))) i' bad'∧∃x,zT 0 (zB (vJ s) en (ts.drop i)) ts x i' bad':=by
   intro q;refine⟨i+1,0,⟨by omega,by omega,((Kp.refl' rb w).drewN q).setP 1 _,k,?_⟩,_,xP hi hp⟩;have:=(h.drewN q).has.putP 1 (.int .i64 ((i:Int)+1))
   simpa using this
  clear hc hp hi h hf;generalize ts.length=L at *;go_enter Tryz.func32,Tryz.ntmps32
  go_wp2_with (first
   |((go_at_call 28)
     refine hs.mono ?_;(rintro e w1 ⟨rfl,q,rfl⟩)))
  go_end0
  exact⟨rfl,R q⟩
abbrev xI(W:World)(g:Nat)(x0 x1 x2 x3 x4:Value):World:=((((W.setCell ⟨g,0,none⟩ x0).setCell ⟨g,1,none⟩ x1).setCell ⟨g,2,none⟩ x2).setCell ⟨g,3,none⟩ x3).setCell ⟨g,4,none⟩ x4
theorem Kp.set5{w W:World}{pb:Nat}(h:Kp pb w W){g:Nat}(hq:w.heap.size≤g)(x0 x1 x2 x3 x4:Value):Kp pb w (xI W g x0 x1 x2 x3 x4):=
 ((((h.setNew (q:=⟨g,0,none⟩) hq x0).setNew (q:=⟨g,1,none⟩) hq x1).setNew (q:=⟨g,2,none⟩) hq x2).setNew (q:=⟨g,3,none⟩) hq x3).setNew (q:=⟨g,4,none⟩) hq x4
theorem j6.set5{w:World}{P:Nat→Prop}{l:List Nd}{v:Value}(h:j6 w P l v){g:Nat}(hq:∀k,P k→k≠g)(x0 x1 x2 x3 x4:Value):j6 (xI w g x0 x1 x2 x3 x4) P l v:=
 h.keep λk o hk ho=>by
  have hne:=hq k hk;rw[Below.heap_setCell _ _ _ k hne,Below.heap_setCell _ _ _ k hne,Below.heap_setCell _ _ _ k hne,Below.heap_setCell _ _ _ k hne,Below.heap_setCell _ _ _ k hne];exact ho
theorem zh(w:World)(o:Obj):Below w.heap.size w (w.alloc o):=(Below.refl _ _).alloc (Nat.le_refl _) _
theorem vh(w:World)(o o':Obj):Below w.heap.size w ((w.alloc o).alloc o'):=((Below.refl _ _).alloc (Nat.le_refl _) _).alloc (by simp) _
def pre(l:List Nd):PR (List Nd)→PR (List Nd)
 | .error e=> .error e
 | .ok (m,r)=> .ok (l++m,r)
theorem x9{p:Tk→Bool}{en:Nat}{ts r:zt}{t:Tk×Nat}(h:zB p en ts= .ok (t,r)):ts.length=r.length+1:=by
 cases ts with
 |nil=>cases h
 |cons u ts =>
  simp only[zB]at h
  split at h
  ·cases h;rfl
  ·cases h
theorem ky{P:jY Nd}(hP:zu P){en:Nat}{ts r:zt}{n:Nd}(h:P en ts= .ok (n,r)):r.length≤ts.length:=by
 obtain⟨q,e,_⟩:=(hP en ts).1 n r h;rw[e,List.length_append];omega
theorem Jc(op:List UInt8):(zQ op).1.length≤3:=by
 unfold zQ
 split
 ·decide
 ·split
  ·decide
  ·split
   ·decide
   ·split<;>decide
end
end Go.Proofs.YtgljdaakdpgpkaaGreatDoor
