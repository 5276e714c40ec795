import Derived.Test.YteaddcdpgcgggaaGreatDoorJoint01
import Derived.RegionTactic
import Derived.Test.YteaddcdpgcgggaaGreatDoorJoint02
import Derived.Test.YteaddcdpgcgggaaGreatDoorJoint05
import Derived.MapKept
import Derived.Laws.IdiomRangeMap
namespace Go.Proofs.YteaddcdpgcgggaaGreatDoor
set_option linter.unusedVariables false
set_option maxRecDepth 100000
set_option maxHeartbeats 40000000
section
open Go.ChangeShapes Go.WideShapes Go.ChangeAt Go.RowKit
theorem yv{a b:Int}(h:a=b):Ending.returned (.int .i64 a)= .returned (.int .i64 b):=by rw[h]
theorem qJ:Z8 48 qx:=by
 intro c w;go_enter Tryz.func48,Tryz.ntmps48
 go_wp2
 all_goals
  go_ret
  refine⟨qW ?_,rfl⟩;rw[Ui,Bool.eq_iff_iff];simp
  try omega
theorem qz:Z8 49 zz:=by
 intro c w;go_enter Tryz.func49,Tryz.ntmps49
 go_wp2
 all_goals
  go_ret
  refine⟨qW ?_,rfl⟩;rw[V9,Bool.eq_iff_iff];simp
  try omega
theorem Ks:Z8 72 qK:=by
 intro c w
 have e:qK c=((qx c||zz c)||decide ((c.toNat:Int)=95)):=by
  unfold qK;rw[Yu];cases qx c<;>cases zz c<;>simp
 rw[e];have hs:=qJ c;have hf:=qz c;cases e1:qx c<;>cases e2:zz c
 all_goals
  rw[e1]at hs;rw[e2]at hf;clear e1 e2 e;go_enter Tryz.func72,Tryz.ntmps72
  go_wp2_with (first
   |(go_at_call 48;refine(hs _).mono ?_;rintro e w' ⟨rfl,rfl⟩)
   |(go_at_call 49;refine(hf _).mono ?_;rintro e w' ⟨rfl,rfl⟩))
  all_goals
   go_ret
   refine⟨qW ?_,rfl⟩;rw[Bool.eq_iff_iff];simp
   try omega
theorem UR:Z8 73 zG:=by
 intro c w;rw[Uz];have hf:=qz c;cases e:zz c
 all_goals
  rw[e]at hf;clear e;go_enter Tryz.func73,Tryz.ntmps73
  go_wp2_with (go_at_call 49;refine(hf _).mono ?_;rintro e w' ⟨rfl,rfl⟩)
  all_goals
   go_ret
   refine⟨qW ?_,rfl⟩;rw[Bool.eq_iff_iff];simp
   try omega
theorem ZP(l:List UInt8)(i:Nat)(w:World)(hl:l.length≤2000)(hi:i≤l.length):Calls Tryz.prog 51 #[.string (bs l),.int .i64 (i:Nat)] w λe w'=>e= .returned (.bool (!yu (l.drop i)))∧w'=w:=by
 have hsz:=zJ l;have hz2:(bs l).size≤2000:=by omega
 by_cases h:i<l.length
 ·have e0:yu (l.drop i)=xj l[i]:=by rw[List.drop_eq_getElem_cons h];rfl
  have h1:i<(bs l).size:=by omega
  have h2:((i:Nat):Int)<((bs l).size:Int):=by omega
  have hg:=qa l i h1;have hs:=qJ ((bs l)[i]'h1);have he:(!yu (l.drop i))=(!qx ((bs l)[i]'h1)&& !decide (((((bs l)[i]'h1).toNat:Nat):Int)=95)):=by rw[e0,←hg,Yu,Bool.not_or]
  rw[he];cases e1:qx ((bs l)[i]'h1)
  all_goals
   rw[e1]at hs;have HS:Hid ((bs l).size=l.length):=hsz;clear e1 he hg hsz e0;go_enter Tryz.func51,Tryz.ntmps51
   go_wp2_with (go_at_call 48;refine(hs _).mono ?_;rintro e w' ⟨rfl,rfl⟩)
   all_goals
    go_ret
    refine⟨qW ?_,rfl⟩;rw[Bool.eq_iff_iff];simp
    try omega
 ·have e0:yu (l.drop i)=false:=by rw[List.drop_eq_nil_of_le (by omega)];rfl
  have h2:¬((i:Nat):Int)<((bs l).size:Int):=by omega
  rw[e0];have HS:Hid ((bs l).size=l.length):=hsz;clear hsz e0;go_enter Tryz.func51,Tryz.ntmps51
  go_wp2
  go_ret
  exact⟨rfl,rfl⟩
theorem Xi(l:List UInt8)(i:Nat)(w:World)(hl:l.length≤2000)(hi:i≤l.length):Calls Tryz.prog 50 #[.string (bs l),.int .i64 (i:Nat),.int .i64 0] w λe w'=>e= .returned (.int .i64 ((i+zS qK (l.drop i):Nat):Int))∧w'=w:=by
 have hsz:=zJ l;have hz2:(bs l).size≤2000:=by omega
 have HS:Hid ((bs l).size=l.length):=hsz;clear hsz;go_enter Tryz.func50,Tryz.ntmps50
 go_wp2
 go_loop [1,7] (λz m=>∃(k:Nat) (b:Bool),k≤zS qK (l.drop i)∧i+k≤l.length∧z= .int .i64 ((i+k:Nat):Int)∧m= .bool b∧(b=false→k=zS qK (l.drop i))) (λz m=>2*(2000-(intOf z).toNat)+(match m with | .bool true=>1|_=>0))
 case atStart=>exact⟨0,true,Nat.zero_le _,by omega,rfl,rfl,λh=>by cases h⟩
 case round =>
  obtain⟨k,b,hk,hkl,rfl,rfl,hb⟩:=hrel
  obtain⟨J,hJ⟩:∃J,J=i+k:=⟨_,rfl⟩
  rw[←hJ];have HJ:Hid (J=i+k):=hJ;clear hJ;have hJ2:J≤2000:=by have:=HJ.out;omega
  by_cases hlt:i+k<l.length
  ·have h1:J<(bs l).size:=by rw[HS.out,HJ.out];exact hlt
   have h2:((J:Nat):Int)<((bs l).size:Int):=by omega
   have hget:(bs l)[J]'h1=l[i+k]:=by rw[qa];simp only[HJ.out]
   cases b
   ·have HE:Hid (k=zS qK (l.drop i)):=hb rfl
    clear hb hget
    go_wp2
    go_ret
    exact⟨yv (by have h8:=HJ.out;have h9:=HE.out;omega),rfl⟩
   ·have ht:=λW=>Ks ((bs l)[J]'h1) W
    cases hc:qK (l[i+k])
    ·have hb2:qK ((bs l)[J]'h1)=false:=by rw[hget];exact hc
     rw[hb2]at ht;have HN:Hid (k=zS qK (l.drop i)):=yY hk hlt hc;clear hb2 hget hc hb
     go_wp2_with (go_at_call 72;refine(ht _).mono ?_;rintro e w' ⟨rfl,rfl⟩)
     go_round
     case rel=>exact⟨k,false,hk,hkl,by rw[HJ.out],rfl,λ_=>HN.out⟩
     case measure=>simp[intOf]
    ·have hb2:qK ((bs l)[J]'h1)=true:=by rw[hget];exact hc
     rw[hb2]at ht;have hn:=(xY hk hlt).2 hc;clear hb2 hget hc hb
     go_wp2_with (go_at_call 72;refine(ht _).mono ?_;rintro e w' ⟨rfl,rfl⟩)
     go_round
     case rel=>exact⟨k+1,true,hn,by omega,by have:=HJ.out;go_num,rfl,λh=>by cases h⟩
     case measure=>simp[intOf];omega
  ·have h2:¬((J:Nat):Int)<((bs l).size:Int):=by rw[HS.out,HJ.out];omega
   have HE:Hid (k=zS qK (l.drop i)):=xS hk hlt hi;clear hb
   go_wp2
   go_ret
   exact⟨yv (by have h8:=HJ.out;have h9:=HE.out;omega),rfl⟩
theorem Z4(l:List UInt8)(i:Nat)(w:World)(hl:l.length≤2000)(hi:i≤l.length):Calls Tryz.prog 50 #[.string (bs l),.int .i64 (i:Nat),.int .i64 1] w λe w'=>e= .returned (.int .i64 ((i+zS zz (l.drop i):Nat):Int))∧w'=w:=by
 have hsz:=zJ l;have hz2:(bs l).size≤2000:=by omega
 have HS:Hid ((bs l).size=l.length):=hsz;clear hsz;go_enter Tryz.func50,Tryz.ntmps50
 go_wp2
 go_loop [1,7] (λz m=>∃(k:Nat) (b:Bool),k≤zS zz (l.drop i)∧i+k≤l.length∧z= .int .i64 ((i+k:Nat):Int)∧m= .bool b∧(b=false→k=zS zz (l.drop i))) (λz m=>2*(2000-(intOf z).toNat)+(match m with | .bool true=>1|_=>0))
 case atStart=>exact⟨0,true,Nat.zero_le _,by omega,rfl,rfl,λh=>by cases h⟩
 case round =>
  obtain⟨k,b,hk,hkl,rfl,rfl,hb⟩:=hrel
  obtain⟨J,hJ⟩:∃J,J=i+k:=⟨_,rfl⟩
  rw[←hJ];have HJ:Hid (J=i+k):=hJ;clear hJ;have hJ2:J≤2000:=by have:=HJ.out;omega
  by_cases hlt:i+k<l.length
  ·have h1:J<(bs l).size:=by rw[HS.out,HJ.out];exact hlt
   have h2:((J:Nat):Int)<((bs l).size:Int):=by omega
   have hget:(bs l)[J]'h1=l[i+k]:=by rw[qa];simp only[HJ.out]
   cases b
   ·have HE:Hid (k=zS zz (l.drop i)):=hb rfl
    clear hb hget
    go_wp2
    go_ret
    exact⟨yv (by have h8:=HJ.out;have h9:=HE.out;omega),rfl⟩
   ·have ht:=λW=>qz ((bs l)[J]'h1) W
    cases hc:zz (l[i+k])
    ·have hb2:zz ((bs l)[J]'h1)=false:=by rw[hget];exact hc
     rw[hb2]at ht;have HN:Hid (k=zS zz (l.drop i)):=yY hk hlt hc;clear hb2 hget hc hb
     go_wp2_with (go_at_call 49;refine(ht _).mono ?_;rintro e w' ⟨rfl,rfl⟩)
     go_round
     case rel=>exact⟨k,false,hk,hkl,by rw[HJ.out],rfl,λ_=>HN.out⟩
     case measure=>simp[intOf]
    ·have hb2:zz ((bs l)[J]'h1)=true:=by rw[hget];exact hc
     rw[hb2]at ht;have hn:=(xY hk hlt).2 hc;clear hb2 hget hc hb
     go_wp2_with (go_at_call 49;refine(ht _).mono ?_;rintro e w' ⟨rfl,rfl⟩)
     go_round
     case rel=>exact⟨k+1,true,hn,by omega,by have:=HJ.out;go_num,rfl,λh=>by cases h⟩
     case measure=>simp[intOf];omega
  ·have h2:¬((J:Nat):Int)<((bs l).size:Int):=by rw[HS.out,HJ.out];omega
   have HE:Hid (k=zS zz (l.drop i)):=xS hk hlt hi;clear hb
   go_wp2
   go_ret
   exact⟨yv (by have h8:=HJ.out;have h9:=HE.out;omega),rfl⟩
theorem Jc(l:List UInt8)(i:Nat)(w:World)(hl:l.length≤2000)(hi:i≤l.length):Calls Tryz.prog 50 #[.string (bs l),.int .i64 (i:Nat),.int .i64 2] w λe w'=>e= .returned (.int .i64 ((i+zS zG (l.drop i):Nat):Int))∧w'=w:=by
 have hsz:=zJ l;have hz2:(bs l).size≤2000:=by omega
 have HS:Hid ((bs l).size=l.length):=hsz;clear hsz;go_enter Tryz.func50,Tryz.ntmps50
 go_wp2
 go_loop [1,7] (λz m=>∃(k:Nat) (b:Bool),k≤zS zG (l.drop i)∧i+k≤l.length∧z= .int .i64 ((i+k:Nat):Int)∧m= .bool b∧(b=false→k=zS zG (l.drop i))) (λz m=>2*(2000-(intOf z).toNat)+(match m with | .bool true=>1|_=>0))
 case atStart=>exact⟨0,true,Nat.zero_le _,by omega,rfl,rfl,λh=>by cases h⟩
 case round =>
  obtain⟨k,b,hk,hkl,rfl,rfl,hb⟩:=hrel
  obtain⟨J,hJ⟩:∃J,J=i+k:=⟨_,rfl⟩
  rw[←hJ];have HJ:Hid (J=i+k):=hJ;clear hJ;have hJ2:J≤2000:=by have:=HJ.out;omega
  by_cases hlt:i+k<l.length
  ·have h1:J<(bs l).size:=by rw[HS.out,HJ.out];exact hlt
   have h2:((J:Nat):Int)<((bs l).size:Int):=by omega
   have hget:(bs l)[J]'h1=l[i+k]:=by rw[qa];simp only[HJ.out]
   cases b
   ·have HE:Hid (k=zS zG (l.drop i)):=hb rfl
    clear hb hget
    go_wp2
    go_ret
    exact⟨yv (by have h8:=HJ.out;have h9:=HE.out;omega),rfl⟩
   ·have ht:=λW=>UR ((bs l)[J]'h1) W
    cases hc:zG (l[i+k])
    ·have hb2:zG ((bs l)[J]'h1)=false:=by rw[hget];exact hc
     rw[hb2]at ht;have HN:Hid (k=zS zG (l.drop i)):=yY hk hlt hc;clear hb2 hget hc hb
     go_wp2_with (go_at_call 73;refine(ht _).mono ?_;rintro e w' ⟨rfl,rfl⟩)
     go_round
     case rel=>exact⟨k,false,hk,hkl,by rw[HJ.out],rfl,λ_=>HN.out⟩
     case measure=>simp[intOf]
    ·have hb2:zG ((bs l)[J]'h1)=true:=by rw[hget];exact hc
     rw[hb2]at ht;have hn:=(xY hk hlt).2 hc;clear hb2 hget hc hb
     go_wp2_with (go_at_call 73;refine(ht _).mono ?_;rintro e w' ⟨rfl,rfl⟩)
     go_round
     case rel=>exact⟨k+1,true,hn,by omega,by have:=HJ.out;go_num,rfl,λh=>by cases h⟩
     case measure=>simp[intOf];omega
  ·have h2:¬((J:Nat):Int)<((bs l).size:Int):=by rw[HS.out,HJ.out];omega
   have HE:Hid (k=zS zG (l.drop i)):=xS hk hlt hi;clear hb
   go_wp2
   go_ret
   exact⟨yv (by have h8:=HJ.out;have h9:=HE.out;omega),rfl⟩
theorem Dl{c:UInt8}(h:j4 c=true):(c.toNat:Int)=9∨(c.toNat:Int)=10∨(c.toNat:Int)=13∨(c.toNat:Int)=32:=by
 rw[Vv]at h;simp at h;omega
theorem D6{c:UInt8}(h:j4 c=false):¬(c.toNat:Int)=9∧¬(c.toNat:Int)=10∧¬(c.toNat:Int)=13∧¬(c.toNat:Int)=32:=by
 rw[Vv]at h;simp at h;omega
theorem ud{c:UInt8}{k:Nat}(h:c.toNat=k):c=UInt8.ofNat k:=by
 apply UInt8.toNat_inj.1;rw[h];simp;have:=c.toNat_lt;omega
theorem gC{l:List UInt8}{j:Nat}(h:j<l.length):yk (l.drop j)=true↔ ∃h2:j+1<l.length,l[j]=47∧l[j+1]=47:=by
 rw[List.drop_eq_getElem_cons h];by_cases h2:j+1<l.length
 ·rw[List.drop_eq_getElem_cons h2]
  simp only[yk,List.take_succ_cons,List.take_zero,beq_iff_eq,List.cons.injEq,and_true];exact⟨λh=>⟨h2,h⟩,λ⟨_,h⟩=>h⟩
 ·rw[List.drop_eq_nil_of_le (by omega)]
  constructor
  ·intro h;simp[yk]at h
  ·rintro⟨h3,_⟩;exact absurd h3 h2
theorem zaD{l:List UInt8}{j:Nat}(h:j<l.length)(hb:j4 l[j]=true):jO false (l.drop j)=jO false (l.drop (j+1))+1:=by
 rw[List.drop_eq_getElem_cons h,jO,if_pos hb]
theorem dp{l:List UInt8}{j:Nat}(h:j<l.length)(hb:j4 l[j]=false):zS j4 (l.drop j)=0:=by
 rw[List.drop_eq_getElem_cons h,vj,hb];simp
theorem gh(l:List UInt8)(i:Nat)(w:World)(hl:l.length≤2000)(hi:i≤l.length):Calls Tryz.prog 24 #[.string (bs l),.int .i64 (i:Nat)] w λe w'=>e= .returned (.int .i64 ((i+jO false (l.drop i):Nat):Int))∧w'=w:=by
 have hsz:=zJ l;have hz2:(bs l).size≤2000:=by omega
 have HS:Hid ((bs l).size=l.length):=hsz;clear hsz
 obtain⟨R,hR⟩:∃R,R=i+jO false (l.drop i):=⟨_,rfl⟩
 rw[←hR];have HR:Hid (R=i+jO false (l.drop i)):=hR;clear hR;go_enter Tryz.func24,Tryz.ntmps24
 go_wp2
 go_loop [1] (λz=>∃j:Nat,j≤l.length∧z= .int .i64 (j:Nat)∧R=j+jO false (l.drop j)) (λz=>2000-(intOf z).toNat)
 case atStart=>exact⟨i,hi,rfl,HR.out⟩
 case round =>
  obtain⟨J,hJl,rfl,hR⟩:=hrel;have HRJ:Hid (R=J+jO false (l.drop J)):=hR;clear hR;have hJ2:J≤2000:=by omega
  by_cases hlt:J<l.length
  ·have h1:J<(bs l).size:=by rw[HS.out];exact hlt
   have h2:((J:Nat):Int)<((bs l).size:Int):=by omega
   have hget:(bs l)[J]'h1=l[J]:=qa l J h1;cases hb:j4 l[J]
   ·have hn:=D6 (show j4 ((bs l)[J]'h1)=false by rw[hget];exact hb)
    obtain⟨n1,n2,n3,n4⟩:=hn;have o1:(((((bs l)[J]'h1).toNat:Nat):Int)==9)=false:=by simpa using n1
    have o2:(((((bs l)[J]'h1).toNat:Nat):Int)==10)=false:=by simpa using n2
    have o3:(((((bs l)[J]'h1).toNat:Nat):Int)==13)=false:=by simpa using n3
    have o4:(((((bs l)[J]'h1).toNat:Nat):Int)==32)=false:=by simpa using n4
    cases hno:yk (l.drop J)
    ·have HE:Hid (R=J):=by show R=J;rw[HRJ.out,Ua (dp hlt hb) hno];rfl
     have hnn:¬ ∃h2:J+1<l.length,l[J]=47∧l[J+1]=47:=λh=>by rw[(gC hlt).2 h]at hno;cases hno
     by_cases ha:J+1<l.length
     ·have a1:J+1<(bs l).size:=by rw[HS.out];exact ha
      have a2:((J:Nat):Int)+1<((bs l).size:Int):=by omega
      by_cases hv:((((bs l)[J]'h1).toNat:Nat):Int)=47
      ·have hv2:¬((((bs l)[J+1]'a1).toNat:Nat):Int)=47:=by
        intro e;apply hnn;refine⟨ha,?_,?_⟩
        ·rw[←hget];exact ud (k:=47) (by omega)
        ·rw[←qa l (J+1) a1];exact ud (k:=47) (by omega)
       have o5:(((((bs l)[J+1]'a1).toNat:Nat):Int)==47)=false:=by simpa using hv2
       clear hb hno hnn hget o1 o2 o3 o4 n1 n2 n3 n4
       go_wp2
       go_ret
       exact⟨yv (by rw[HE.out]),rfl⟩
      ·have o5:(((((bs l)[J]'h1).toNat:Nat):Int)==47)=false:=by simpa using hv
       clear hb hno hnn hget
       go_wp2
       go_ret
       exact⟨yv (by rw[HE.out]),rfl⟩
     ·have a2:¬((J:Nat):Int)+1<((bs l).size:Int):=by rw[HS.out];omega
      clear hb hno hnn hget
      go_wp2
      go_ret
      exact⟨yv (by rw[HE.out]),rfl⟩
    ·obtain⟨ha,hv,hv2⟩:=(gC hlt).1 hno
     have a1:J+1<(bs l).size:=by rw[HS.out];exact ha
     have a2:((J:Nat):Int)+1<((bs l).size:Int):=by omega
     have b1:((((bs l)[J]'h1).toNat:Nat):Int)=47:=by rw[show(bs l)[J]'h1=47 from hget.trans hv];rfl
     have b2:((((bs l)[J+1]'a1).toNat:Nat):Int)=47:=by rw[show(bs l)[J+1]'a1=47 from(qa l (J+1) a1).trans hv2];rfl
     have hsn:=QV hno
     have hE2:R=J+zS jH (l.drop J)+jO false (l.drop (J+zS jH (l.drop J))):=by
      rw[HRJ.out,hsn.1,List.drop_drop];omega
     have HE:Hid (R=J+zS jH (l.drop J)+jO false (l.drop (J+zS jH (l.drop J)))):=hE2;have hc2:=hsn.2;clear hb hno hget hv hv2 hsn hE2 o1 o2 o3 o4 n1 n2 n3 n4
     go_wp2
     go_loop [1] (λz=>∃k:Nat,k≤zS jH (l.drop J)∧J+k≤l.length∧z= .int .i64 ((J+k:Nat):Int)) (λz=>2000-(intOf z).toNat)
     case atStart=>exact⟨0,Nat.zero_le _,by omega,rfl⟩
     case round =>
      obtain⟨k,hk,hkl,rfl⟩:=hrel
      obtain⟨K,hK⟩:∃K,K=J+k:=⟨_,rfl⟩
      rw[←hK];have HK:Hid (K=J+k):=hK;clear hK;have hK2:K≤2000:=by have:=HK.out;omega
      by_cases hlt3:J+k<l.length
      ·have d1:K<(bs l).size:=by rw[HS.out,HK.out];exact hlt3
       have d2:((K:Nat):Int)<((bs l).size:Int):=by omega
       have dg:(bs l)[K]'d1=l[J+k]:=by rw[qa];simp only[HK.out]
       cases hc:jH (l[J+k])
       ·have e1:((((bs l)[K]'d1).toNat:Nat):Int)=10:=by rw[dg];rw[Yo]at hc;simpa using hc
        have HN:Hid (k=zS jH (l.drop J)):=yY hk hlt3 hc;clear dg hc
        go_wp2
        go_round
        case rel=>exact⟨J+zS jH (l.drop J),by have:=HN.out;omega,by have h8:=HN.out;have h9:=HK.out;rw[←h8,←h9],HE.out⟩
        case measure=>have h8:=HN.out;have h9:=HK.out;simp[intOf];omega
       ·have e1:¬((((bs l)[K]'d1).toNat:Nat):Int)=10:=by rw[dg];rw[Yo]at hc;simpa using hc
        have hn:=(xY hk hlt3).2 hc;clear dg hc
        go_wp2
        go_round
        case rel=>exact⟨k+1,hn,by omega,by have:=HK.out;go_num⟩
        case measure=>simp[intOf];omega
      ·have d2:¬((K:Nat):Int)<((bs l).size:Int):=by rw[HS.out,HK.out];omega
       have HN:Hid (k=zS jH (l.drop J)):=xS hk hlt3 (by omega)
       go_wp2
       go_round
       case rel=>exact⟨J+zS jH (l.drop J),by have:=HN.out;omega,by have h8:=HN.out;have h9:=HK.out;rw[←h8,←h9],HE.out⟩
       case measure=>have h8:=HN.out;have h9:=HK.out;simp[intOf];omega
   ·have hvs:=Dl (show j4 ((bs l)[J]'h1)=true by rw[hget];exact hb)
    have HE:Hid (R=J+1+jO false (l.drop (J+1))):=by show R=_;rw[HRJ.out,zaD hlt hb];omega
    clear hb hget;rcases hvs with hv|hv|hv|hv
    all_goals
     go_wp2
     go_round
     case rel=>exact⟨J+1,by omega,by go_num,HE.out⟩
     case measure=>simp[intOf];omega
  ·have h2:¬((J:Nat):Int)<((bs l).size:Int):=by rw[HS.out];omega
   have HE:Hid (R=J):=by show R=J;rw[HRJ.out,List.drop_eq_nil_of_le (by omega)];rfl
   go_wp2
   go_ret
   exact⟨yv (by rw[HE.out]),rfl⟩
def yo(t:Tk)(p:Nat):Array Value:=#[.int .i64 (t.kind:Nat),.string (bs t.s),.int .i64 (t.n:Nat),.int .i64 (p:Nat)]
def xA(w:World)(i:Nat)(t:Tk)(E:Nat)(er:Int)(a:Int)(e:Ending)(w':World):Prop:=e= .returned (.tuple #[.agg (yo t i),.int .i64 (E:Nat),.int .i64 er,.int .i64 a])∧Below w.heap.size w w'
theorem GP{c:UInt8}(h:qx c=true):zz c=false:=by
 simp[qx]at h;simp[zz];omega
theorem Zj:bs []=⟨#[]⟩:=rfl
theorem jV{w:World}{o1:Obj}(o2:Obj):Below w.heap.size w ((w.alloc o1).alloc o2):=((Below.refl _ _).alloc (Nat.le_refl _) _).alloc (by simp) _
theorem Fq{w:World}{l:List UInt8}{i:Nat}(hi:i<l.length)(hl:l.length≤2000)(k1:qx l[i]=true)(h:¬16<zS qK (l.drop i)):
 Calls Tryz.prog 25 #[.string (bs l),.int .i64 (i:Nat)] w (xA w i ⟨0,(l.drop i).take (zS qK (l.drop i)),0⟩ (i+zS qK (l.drop i)) 0 (-1)):=by
 have hsz:=zJ l;have h1:i<(bs l).size:=by omega
 have h2:((i:Nat):Int)<((bs l).size:Int):=by omega
 have hi2:i≤2000:=by omega
 have hz2:(bs l).size≤2000:=by omega
 have k2:=GP k1;have hc1:qx ((bs l)[i]'h1)=true:=by rw[qa];exact k1
 have hs1:=qJ ((bs l)[i]'h1);rw[hc1]at hs1;clear hc1 k1;have hc2:zz ((bs l)[i]'h1)=false:=by rw[qa];exact k2
 have hs2:=qz ((bs l)[i]'h1);rw[hc2]at hs2;clear hc2 k2;have hen:=λW=>Xi l i W hl (by omega)
 obtain⟨J,hJ⟩:∃J,J=(i+zS qK (l.drop i)):=⟨_,rfl⟩
 rw[←hJ]at hen ⊢
 have hJl:J≤l.length:=by
  have:=v8 qK (l.drop i);rw[List.length_drop]at this;omega
 have hJ2:J≤2000:=by omega
 have g1:¬(16:Int)<((J:Nat):Int)-((i:Nat):Int):=by omega
 have g2:((i:Nat):Int)≤((J:Nat):Int):=by omega
 have g3:((J:Nat):Int)≤((bs l).size:Int):=by omega
 have hx:(bs l).extract i J=bs ((l.drop i).take (zS qK (l.drop i))):=by rw[jt,hJ,Nat.add_sub_cancel_left]
 generalize (l.drop i).take (zS qK (l.drop i))=X at hx ⊢;clear hJ;have HS:Hid ((bs l).size=l.length):=hsz;clear hsz;go_enter Tryz.func25,Tryz.ntmps25
 go_wp2_with (first
  |(go_at_call 48;refine(hs1 _).mono ?_;rintro e w' ⟨rfl,rfl⟩)
  |(go_at_call 49;refine(hs2 _).mono ?_;rintro e w' ⟨rfl,rfl⟩)
  |(go_at_call 50;refine(hen _).mono ?_;rintro e w' ⟨rfl,rfl⟩))
 exact bodyPost_ret (v:= .tuple #[.agg (yo ⟨0,X,0⟩ i),.int .i64 ((J:Nat):Int),.int .i64 0,.int .i64 (-1)]) (by simp[results,Tryz.results25,go_sem,yo]) rfl ⟨rfl,jV _⟩
theorem UY{w:World}{l:List UInt8}{i:Nat}(hi:i<l.length)(hl:l.length≤2000)(k1:qx l[i]=true)(h:16<zS qK (l.drop i)):
 Calls Tryz.prog 25 #[.string (bs l),.int .i64 (i:Nat)] w (xA w i ⟨0,[],0⟩ (i+zS qK (l.drop i)) 102 (i:Nat)):=by
 have hsz:=zJ l;have h1:i<(bs l).size:=by omega
 have h2:((i:Nat):Int)<((bs l).size:Int):=by omega
 have hi2:i≤2000:=by omega
 have hz2:(bs l).size≤2000:=by omega
 have k2:=GP k1;have hc1:qx ((bs l)[i]'h1)=true:=by rw[qa];exact k1
 have hs1:=qJ ((bs l)[i]'h1);rw[hc1]at hs1;clear hc1 k1;have hc2:zz ((bs l)[i]'h1)=false:=by rw[qa];exact k2
 have hs2:=qz ((bs l)[i]'h1);rw[hc2]at hs2;clear hc2 k2;have hen:=λW=>Xi l i W hl (by omega)
 obtain⟨J,hJ⟩:∃J,J=(i+zS qK (l.drop i)):=⟨_,rfl⟩
 rw[←hJ]at hen ⊢
 have hJl:J≤l.length:=by
  have:=v8 qK (l.drop i);rw[List.length_drop]at this;omega
 have hJ2:J≤2000:=by omega
 have g1:(16:Int)<((J:Nat):Int)-((i:Nat):Int):=by omega
 clear hJ;have HS:Hid ((bs l).size=l.length):=hsz;clear hsz;go_enter Tryz.func25,Tryz.ntmps25
 go_wp2_with (first
  |(go_at_call 48;refine(hs1 _).mono ?_;rintro e w' ⟨rfl,rfl⟩)
  |(go_at_call 49;refine(hs2 _).mono ?_;rintro e w' ⟨rfl,rfl⟩)
  |(go_at_call 50;refine(hen _).mono ?_;rintro e w' ⟨rfl,rfl⟩))
 exact bodyPost_ret (v:= .tuple #[.agg (yo ⟨0,[],0⟩ i),.int .i64 ((J:Nat):Int),.int .i64 102,.int .i64 (i:Nat)]) (by simp[results,Tryz.results25,go_sem,yo,Zj]) rfl ⟨rfl,jV _⟩
theorem Fj{w:World}{l:List UInt8}{i:Nat}(hi:i<l.length)(hl:l.length≤2000)(k1:qx l[i]=false)(k2:zz l[i]=true)(h:9<zS zz (l.drop i)):
 Calls Tryz.prog 25 #[.string (bs l),.int .i64 (i:Nat)] w (xA w i ⟨0,[],0⟩ (i+zS zz (l.drop i)) 102 (i:Nat)):=by
 have hsz:=zJ l;have h1:i<(bs l).size:=by omega
 have h2:((i:Nat):Int)<((bs l).size:Int):=by omega
 have hi2:i≤2000:=by omega
 have hz2:(bs l).size≤2000:=by omega
 have hc1:qx ((bs l)[i]'h1)=false:=by rw[qa];exact k1
 have hs1:=qJ ((bs l)[i]'h1);rw[hc1]at hs1;clear hc1 k1;have hc2:zz ((bs l)[i]'h1)=true:=by rw[qa];exact k2
 have hs2:=qz ((bs l)[i]'h1);rw[hc2]at hs2;clear hc2 k2;have hen:=λW=>Z4 l i W hl (by omega)
 obtain⟨J,hJ⟩:∃J,J=(i+zS zz (l.drop i)):=⟨_,rfl⟩
 rw[←hJ]at hen ⊢
 have hJl:J≤l.length:=by
  have:=v8 zz (l.drop i);rw[List.length_drop]at this;omega
 have hJ2:J≤2000:=by omega
 have hba:=λW=>ZP l J W hl hJl
 have g1:(9:Int)<((J:Nat):Int)-((i:Nat):Int):=by omega
 generalize (!yu (l.drop J))=bb at hba;clear hJ;have HS:Hid ((bs l).size=l.length):=hsz;clear hsz;go_enter Tryz.func25,Tryz.ntmps25
 go_wp2_with (first
  |(go_at_call 48;refine(hs1 _).mono ?_;rintro e w' ⟨rfl,rfl⟩)
  |(go_at_call 49;refine(hs2 _).mono ?_;rintro e w' ⟨rfl,rfl⟩)
  |(go_at_call 50;refine(hen _).mono ?_;rintro e w' ⟨rfl,rfl⟩)
  |(go_at_call 51;refine(hba _).mono ?_;rintro e w' ⟨rfl,rfl⟩))
 exact bodyPost_ret (v:= .tuple #[.agg (yo ⟨0,[],0⟩ i),.int .i64 ((J:Nat):Int),.int .i64 102,.int .i64 (i:Nat)]) (by simp[results,Tryz.results25,go_sem,yo,Zj]) rfl ⟨rfl,jV _⟩
theorem F4{w:World}{l:List UInt8}{i:Nat}(hi:i<l.length)(hl:l.length≤2000)(k1:qx l[i]=false)(k2:zz l[i]=true)(h:¬9<zS zz (l.drop i))(k3:yu (l.drop (i+zS zz (l.drop i)))=true):
 Calls Tryz.prog 25 #[.string (bs l),.int .i64 (i:Nat)] w (xA w i ⟨0,[],0⟩ (i+zS zz (l.drop i)) 101 ((i+zS zz (l.drop i):Nat):Int)):=by
 have hsz:=zJ l;have h1:i<(bs l).size:=by omega
 have h2:((i:Nat):Int)<((bs l).size:Int):=by omega
 have hi2:i≤2000:=by omega
 have hz2:(bs l).size≤2000:=by omega
 have hc1:qx ((bs l)[i]'h1)=false:=by rw[qa];exact k1
 have hs1:=qJ ((bs l)[i]'h1);rw[hc1]at hs1;clear hc1 k1;have hc2:zz ((bs l)[i]'h1)=true:=by rw[qa];exact k2
 have hs2:=qz ((bs l)[i]'h1);rw[hc2]at hs2;clear hc2 k2;have hen:=λW=>Z4 l i W hl (by omega)
 obtain⟨J,hJ⟩:∃J,J=(i+zS zz (l.drop i)):=⟨_,rfl⟩
 rw[←hJ]at hen ⊢
 have hJl:J≤l.length:=by
  have:=v8 zz (l.drop i);rw[List.length_drop]at this;omega
 have hJ2:J≤2000:=by omega
 have hba:=λW=>ZP l J W hl hJl
 rw[show yu (l.drop J)=true by rw[hJ];exact k3]at hba;have g1:¬(9:Int)<((J:Nat):Int)-((i:Nat):Int):=by omega
 clear hJ k3;have HS:Hid ((bs l).size=l.length):=hsz;clear hsz;go_enter Tryz.func25,Tryz.ntmps25
 go_wp2_with (first
  |(go_at_call 48;refine(hs1 _).mono ?_;rintro e w' ⟨rfl,rfl⟩)
  |(go_at_call 49;refine(hs2 _).mono ?_;rintro e w' ⟨rfl,rfl⟩)
  |(go_at_call 50;refine(hen _).mono ?_;rintro e w' ⟨rfl,rfl⟩)
  |(go_at_call 51;refine(hba _).mono ?_;rintro e w' ⟨rfl,rfl⟩))
 exact bodyPost_ret (v:= .tuple #[.agg (yo ⟨0,[],0⟩ i),.int .i64 ((J:Nat):Int),.int .i64 101,.int .i64 ((J:Nat):Int)]) (by simp[results,Tryz.results25,go_sem,yo,Zj]) rfl ⟨rfl,jV _⟩
theorem FL{w:World}{l:List UInt8}{i:Nat}(hi:i<l.length)(hl:l.length≤2000)(k4:l[i]=36)(h:zS zG (l.drop (i+1))=0):
 Calls Tryz.prog 25 #[.string (bs l),.int .i64 (i:Nat)] w (xA w i ⟨0,[],0⟩ (i+1) 101 ((i+1:Nat):Int)):=by
 have hsz:=zJ l;have h1:i<(bs l).size:=by omega
 have h2:((i:Nat):Int)<((bs l).size:Int):=by omega
 have hi2:i≤2000:=by omega
 have hz2:(bs l).size≤2000:=by omega
 have k4':(bs l)[i]'h1=36:=by rw[qa];exact k4
 have k1:qx ((bs l)[i]'h1)=false:=by rw[k4'];decide
 have k2:zz ((bs l)[i]'h1)=false:=by rw[k4'];decide
 have hs1:=qJ ((bs l)[i]'h1);rw[k1]at hs1;have hs2:=qz ((bs l)[i]'h1);rw[k2]at hs2;have hv:((((bs l)[i]'h1).toNat:Nat):Int)=36:=by rw[k4'];rfl
 rw[hv]at hs1 hs2;clear k1 k2 k4 k4';have hen:=λW=>Jc l (i+1) W hl (by omega)
 rw[h,Nat.add_zero,show(((i+1:Nat):Nat):Int)=((i:Nat):Int)+1 by omega]at hen;have hba:=λW=>ZP l (i+1) W hl (by omega)
 rw[show(((i+1:Nat):Nat):Int)=((i:Nat):Int)+1 by omega]at hba;generalize (!yu (l.drop (i+1)))=bb at hba;have HS:Hid ((bs l).size=l.length):=hsz;clear hsz;go_enter Tryz.func25,Tryz.ntmps25
 go_wp2_with (first
  |(go_at_call 48;refine(hs1 _).mono ?_;rintro e w' ⟨rfl,rfl⟩)
  |(go_at_call 49;refine(hs2 _).mono ?_;rintro e w' ⟨rfl,rfl⟩)
  |(go_at_call 50;refine(hen _).mono ?_;rintro e w' ⟨rfl,rfl⟩)
  |(go_at_call 51;refine(hba _).mono ?_;rintro e w' ⟨rfl,rfl⟩))
 exact bodyPost_ret (v:= .tuple #[.agg (yo ⟨0,[],0⟩ i),.int .i64 (((i+1):Nat):Int),.int .i64 101,.int .i64 ((i+1:Nat):Int)]) (by simp[results,Tryz.results25,go_sem,yo,Zj]) rfl ⟨rfl,jV _⟩
theorem fo{w:World}{l:List UInt8}{i:Nat}(hi:i<l.length)(hl:l.length≤2000)(k4:l[i]=36)(h:128<zS zG (l.drop (i+1))):
 Calls Tryz.prog 25 #[.string (bs l),.int .i64 (i:Nat)] w (xA w i ⟨0,[],0⟩ (i+1+zS zG (l.drop (i+1))) 102 (i:Nat)):=by
 have hsz:=zJ l;have h1:i<(bs l).size:=by omega
 have h2:((i:Nat):Int)<((bs l).size:Int):=by omega
 have hi2:i≤2000:=by omega
 have hz2:(bs l).size≤2000:=by omega
 have k4':(bs l)[i]'h1=36:=by rw[qa];exact k4
 have k1:qx ((bs l)[i]'h1)=false:=by rw[k4'];decide
 have k2:zz ((bs l)[i]'h1)=false:=by rw[k4'];decide
 have hs1:=qJ ((bs l)[i]'h1);rw[k1]at hs1;have hs2:=qz ((bs l)[i]'h1);rw[k2]at hs2;have hv:((((bs l)[i]'h1).toNat:Nat):Int)=36:=by rw[k4'];rfl
 rw[hv]at hs1 hs2;clear k1 k2 k4 k4';have hen:=λW=>Jc l (i+1) W hl (by omega)
 obtain⟨J,hJ⟩:∃J,J=(i+1+zS zG (l.drop (i+1))):=⟨_,rfl⟩
 rw[←hJ]at hen ⊢
 have hJl:J≤l.length:=by
  have:=v8 zG (l.drop (i+1));rw[List.length_drop]at this;omega
 have hJ2:J≤2000:=by omega
 have ei:(((i+1:Nat):Nat):Int)=((i:Nat):Int)+1:=by omega
 rw[ei]at hen;have hba:=λW=>ZP l J W hl hJl
 generalize (!yu (l.drop J))=bb at hba;have g1:¬((J:Nat):Int)=((i:Nat):Int)+1:=by omega
 have g2:(128:Int)<((J:Nat):Int)-((i:Nat):Int)-1:=by omega
 clear hJ;have HS:Hid ((bs l).size=l.length):=hsz;clear hsz;go_enter Tryz.func25,Tryz.ntmps25
 go_wp2_with (first
  |(go_at_call 48;refine(hs1 _).mono ?_;rintro e w' ⟨rfl,rfl⟩)
  |(go_at_call 49;refine(hs2 _).mono ?_;rintro e w' ⟨rfl,rfl⟩)
  |(go_at_call 50;refine(hen _).mono ?_;rintro e w' ⟨rfl,rfl⟩)
  |(go_at_call 51;refine(hba _).mono ?_;rintro e w' ⟨rfl,rfl⟩))
 exact bodyPost_ret (v:= .tuple #[.agg (yo ⟨0,[],0⟩ i),.int .i64 ((J:Nat):Int),.int .i64 102,.int .i64 (i:Nat)]) (by simp[results,Tryz.results25,go_sem,yo,Zj]) rfl ⟨rfl,jV _⟩
theorem g9{w:World}{l:List UInt8}{i:Nat}(hi:i<l.length)(hl:l.length≤2000)(k4:l[i]=36)(h0:zS zG (l.drop (i+1))≠0)(h:¬128<zS zG (l.drop (i+1)))(k3:yu (l.drop (i+1+zS zG (l.drop (i+1))))=true):
 Calls Tryz.prog 25 #[.string (bs l),.int .i64 (i:Nat)] w (xA w i ⟨0,[],0⟩ (i+1+zS zG (l.drop (i+1))) 101 ((i+1+zS zG (l.drop (i+1)):Nat):Int)):=by
 have hsz:=zJ l;have h1:i<(bs l).size:=by omega
 have h2:((i:Nat):Int)<((bs l).size:Int):=by omega
 have hi2:i≤2000:=by omega
 have hz2:(bs l).size≤2000:=by omega
 have k4':(bs l)[i]'h1=36:=by rw[qa];exact k4
 have k1:qx ((bs l)[i]'h1)=false:=by rw[k4'];decide
 have k2:zz ((bs l)[i]'h1)=false:=by rw[k4'];decide
 have hs1:=qJ ((bs l)[i]'h1);rw[k1]at hs1;have hs2:=qz ((bs l)[i]'h1);rw[k2]at hs2;have hv:((((bs l)[i]'h1).toNat:Nat):Int)=36:=by rw[k4'];rfl
 rw[hv]at hs1 hs2;clear k1 k2 k4 k4';have hen:=λW=>Jc l (i+1) W hl (by omega)
 obtain⟨J,hJ⟩:∃J,J=(i+1+zS zG (l.drop (i+1))):=⟨_,rfl⟩
 rw[←hJ]at hen ⊢
 have hJl:J≤l.length:=by
  have:=v8 zG (l.drop (i+1));rw[List.length_drop]at this;omega
 have hJ2:J≤2000:=by omega
 have ei:(((i+1:Nat):Nat):Int)=((i:Nat):Int)+1:=by omega
 rw[ei]at hen;have hba:=λW=>ZP l J W hl hJl
 rw[show yu (l.drop J)=true by rw[hJ];exact k3]at hba;have g1:¬((J:Nat):Int)=((i:Nat):Int)+1:=by omega
 have g2:¬(128:Int)<((J:Nat):Int)-((i:Nat):Int)-1:=by omega
 clear hJ k3;have HS:Hid ((bs l).size=l.length):=hsz;clear hsz;go_enter Tryz.func25,Tryz.ntmps25
 go_wp2_with (first
  |(go_at_call 48;refine(hs1 _).mono ?_;rintro e w' ⟨rfl,rfl⟩)
  |(go_at_call 49;refine(hs2 _).mono ?_;rintro e w' ⟨rfl,rfl⟩)
  |(go_at_call 50;refine(hen _).mono ?_;rintro e w' ⟨rfl,rfl⟩)
  |(go_at_call 51;refine(hba _).mono ?_;rintro e w' ⟨rfl,rfl⟩))
 exact bodyPost_ret (v:= .tuple #[.agg (yo ⟨0,[],0⟩ i),.int .i64 ((J:Nat):Int),.int .i64 101,.int .i64 ((J:Nat):Int)]) (by simp[results,Tryz.results25,go_sem,yo,Zj]) rfl ⟨rfl,jV _⟩
theorem Hq{w:World}{l:List UInt8}{i:Nat}(hi:i<l.length)(hl:l.length≤2000)(k4:l[i]=36)(h0:zS zG (l.drop (i+1))≠0)(h:¬128<zS zG (l.drop (i+1)))(k3:yu (l.drop (i+1+zS zG (l.drop (i+1))))=false):
 Calls Tryz.prog 25 #[.string (bs l),.int .i64 (i:Nat)] w (xA w i ⟨2,(l.drop (i+1)).take (zS zG (l.drop (i+1))),0⟩ (i+1+zS zG (l.drop (i+1))) 0 (-1)):=by
 have hsz:=zJ l;have h1:i<(bs l).size:=by omega
 have h2:((i:Nat):Int)<((bs l).size:Int):=by omega
 have hi2:i≤2000:=by omega
 have hz2:(bs l).size≤2000:=by omega
 have k4':(bs l)[i]'h1=36:=by rw[qa];exact k4
 have k1:qx ((bs l)[i]'h1)=false:=by rw[k4'];decide
 have k2:zz ((bs l)[i]'h1)=false:=by rw[k4'];decide
 have hs1:=qJ ((bs l)[i]'h1);rw[k1]at hs1;have hs2:=qz ((bs l)[i]'h1);rw[k2]at hs2;have hv:((((bs l)[i]'h1).toNat:Nat):Int)=36:=by rw[k4'];rfl
 rw[hv]at hs1 hs2;clear k1 k2 k4 k4';have hen:=λW=>Jc l (i+1) W hl (by omega)
 obtain⟨J,hJ⟩:∃J,J=(i+1+zS zG (l.drop (i+1))):=⟨_,rfl⟩
 rw[←hJ]at hen ⊢
 have hJl:J≤l.length:=by
  have:=v8 zG (l.drop (i+1));rw[List.length_drop]at this;omega
 have hJ2:J≤2000:=by omega
 have ei:(((i+1:Nat):Nat):Int)=((i:Nat):Int)+1:=by omega
 rw[ei]at hen;have hba:=λW=>ZP l J W hl hJl
 rw[show yu (l.drop J)=false by rw[hJ];exact k3]at hba;have g1:¬((J:Nat):Int)=((i:Nat):Int)+1:=by omega
 have g2:¬(128:Int)<((J:Nat):Int)-((i:Nat):Int)-1:=by omega
 have g3:((i:Nat):Int)+1≤((J:Nat):Int):=by omega
 have g4:((J:Nat):Int)≤((bs l).size:Int):=by omega
 have hx:(bs l).extract (i+1) J=bs ((l.drop (i+1)).take (zS zG (l.drop (i+1)))):=by rw[jt,hJ,Nat.add_sub_cancel_left]
 generalize (l.drop (i+1)).take (zS zG (l.drop (i+1)))=X at hx ⊢;clear hJ k3;have HS:Hid ((bs l).size=l.length):=hsz;clear hsz;go_enter Tryz.func25,Tryz.ntmps25
 go_wp2_with (first
  |(go_at_call 48;refine(hs1 _).mono ?_;rintro e w' ⟨rfl,rfl⟩)
  |(go_at_call 49;refine(hs2 _).mono ?_;rintro e w' ⟨rfl,rfl⟩)
  |(go_at_call 50;refine(hen _).mono ?_;rintro e w' ⟨rfl,rfl⟩)
  |(go_at_call 51;refine(hba _).mono ?_;rintro e w' ⟨rfl,rfl⟩))
 exact bodyPost_ret (v:= .tuple #[.agg (yo ⟨2,X,0⟩ i),.int .i64 ((J:Nat):Int),.int .i64 0,.int .i64 (-1)]) (by simp[results,Tryz.results25,go_sem,yo]) rfl ⟨rfl,jV _⟩
theorem KY{w:World}{l:List UInt8}{i:Nat}(hi:i<l.length)(hl:l.length≤2000)(k4:l[i]=40):
 Calls Tryz.prog 25 #[.string (bs l),.int .i64 (i:Nat)] w (xA w i ⟨3,[40],0⟩ (i+1) 0 (-1)):=by
 have hsz:=zJ l;have h1:i<(bs l).size:=by omega
 have h2:((i:Nat):Int)<((bs l).size:Int):=by omega
 have hi2:i≤2000:=by omega
 have hz2:(bs l).size≤2000:=by omega
 have k4':(bs l)[i]'h1=40:=by rw[qa];exact k4
 have k1:qx ((bs l)[i]'h1)=false:=by rw[k4'];decide
 have k2:zz ((bs l)[i]'h1)=false:=by rw[k4'];decide
 have hs1:=qJ ((bs l)[i]'h1);rw[k1]at hs1;have hs2:=qz ((bs l)[i]'h1);rw[k2]at hs2;have hv:((((bs l)[i]'h1).toNat:Nat):Int)=40:=by rw[k4'];rfl
 rw[hv]at hs1 hs2
 have hx:(bs l).extract i (i+1)=bs [40]:=by
  rw[jt,List.drop_eq_getElem_cons hi,k4,Nat.add_sub_cancel_left];rfl
 have hb1:((i:Nat):Int)+1≤((bs l).size:Int):=by omega
 clear k1 k2 k4 k4';have HS:Hid ((bs l).size=l.length):=hsz;clear hsz;go_enter Tryz.func25,Tryz.ntmps25
 go_wp2_with (first
  |(go_at_call 48;refine(hs1 _).mono ?_;rintro e w' ⟨rfl,rfl⟩)
  |(go_at_call 49;refine(hs2 _).mono ?_;rintro e w' ⟨rfl,rfl⟩))
 exact bodyPost_ret (v:= .tuple #[.agg (yo ⟨3,[40],0⟩ i),.int .i64 (((i+1):Nat):Int),.int .i64 0,.int .i64 (-1)]) (by simp[results,Tryz.results25,go_sem,yo]) rfl ⟨rfl,jV _⟩
theorem UN{w:World}{l:List UInt8}{i:Nat}(hi:i<l.length)(hl:l.length≤2000)(k4:l[i]=41):
 Calls Tryz.prog 25 #[.string (bs l),.int .i64 (i:Nat)] w (xA w i ⟨3,[41],0⟩ (i+1) 0 (-1)):=by
 have hsz:=zJ l;have h1:i<(bs l).size:=by omega
 have h2:((i:Nat):Int)<((bs l).size:Int):=by omega
 have hi2:i≤2000:=by omega
 have hz2:(bs l).size≤2000:=by omega
 have k4':(bs l)[i]'h1=41:=by rw[qa];exact k4
 have k1:qx ((bs l)[i]'h1)=false:=by rw[k4'];decide
 have k2:zz ((bs l)[i]'h1)=false:=by rw[k4'];decide
 have hs1:=qJ ((bs l)[i]'h1);rw[k1]at hs1;have hs2:=qz ((bs l)[i]'h1);rw[k2]at hs2;have hv:((((bs l)[i]'h1).toNat:Nat):Int)=41:=by rw[k4'];rfl
 rw[hv]at hs1 hs2
 have hx:(bs l).extract i (i+1)=bs [41]:=by
  rw[jt,List.drop_eq_getElem_cons hi,k4,Nat.add_sub_cancel_left];rfl
 have hb1:((i:Nat):Int)+1≤((bs l).size:Int):=by omega
 clear k1 k2 k4 k4';have HS:Hid ((bs l).size=l.length):=hsz;clear hsz;go_enter Tryz.func25,Tryz.ntmps25
 go_wp2_with (first
  |(go_at_call 48;refine(hs1 _).mono ?_;rintro e w' ⟨rfl,rfl⟩)
  |(go_at_call 49;refine(hs2 _).mono ?_;rintro e w' ⟨rfl,rfl⟩))
 exact bodyPost_ret (v:= .tuple #[.agg (yo ⟨3,[41],0⟩ i),.int .i64 (((i+1):Nat):Int),.int .i64 0,.int .i64 (-1)]) (by simp[results,Tryz.results25,go_sem,yo]) rfl ⟨rfl,jV _⟩
theorem US{w:World}{l:List UInt8}{i:Nat}(hi:i<l.length)(hl:l.length≤2000)(k4:l[i]=44):
 Calls Tryz.prog 25 #[.string (bs l),.int .i64 (i:Nat)] w (xA w i ⟨3,[44],0⟩ (i+1) 0 (-1)):=by
 have hsz:=zJ l;have h1:i<(bs l).size:=by omega
 have h2:((i:Nat):Int)<((bs l).size:Int):=by omega
 have hi2:i≤2000:=by omega
 have hz2:(bs l).size≤2000:=by omega
 have k4':(bs l)[i]'h1=44:=by rw[qa];exact k4
 have k1:qx ((bs l)[i]'h1)=false:=by rw[k4'];decide
 have k2:zz ((bs l)[i]'h1)=false:=by rw[k4'];decide
 have hs1:=qJ ((bs l)[i]'h1);rw[k1]at hs1;have hs2:=qz ((bs l)[i]'h1);rw[k2]at hs2;have hv:((((bs l)[i]'h1).toNat:Nat):Int)=44:=by rw[k4'];rfl
 rw[hv]at hs1 hs2
 have hx:(bs l).extract i (i+1)=bs [44]:=by
  rw[jt,List.drop_eq_getElem_cons hi,k4,Nat.add_sub_cancel_left];rfl
 have hb1:((i:Nat):Int)+1≤((bs l).size:Int):=by omega
 clear k1 k2 k4 k4';have HS:Hid ((bs l).size=l.length):=hsz;clear hsz;go_enter Tryz.func25,Tryz.ntmps25
 go_wp2_with (first
  |(go_at_call 48;refine(hs1 _).mono ?_;rintro e w' ⟨rfl,rfl⟩)
  |(go_at_call 49;refine(hs2 _).mono ?_;rintro e w' ⟨rfl,rfl⟩))
 exact bodyPost_ret (v:= .tuple #[.agg (yo ⟨3,[44],0⟩ i),.int .i64 (((i+1):Nat):Int),.int .i64 0,.int .i64 (-1)]) (by simp[results,Tryz.results25,go_sem,yo]) rfl ⟨rfl,jV _⟩
theorem kh{w:World}{l:List UInt8}{i:Nat}(hi:i<l.length)(hl:l.length≤2000)(k4:l[i]=61):
 Calls Tryz.prog 25 #[.string (bs l),.int .i64 (i:Nat)] w (xA w i ⟨3,[61],0⟩ (i+1) 0 (-1)):=by
 have hsz:=zJ l;have h1:i<(bs l).size:=by omega
 have h2:((i:Nat):Int)<((bs l).size:Int):=by omega
 have hi2:i≤2000:=by omega
 have hz2:(bs l).size≤2000:=by omega
 have k4':(bs l)[i]'h1=61:=by rw[qa];exact k4
 have k1:qx ((bs l)[i]'h1)=false:=by rw[k4'];decide
 have k2:zz ((bs l)[i]'h1)=false:=by rw[k4'];decide
 have hs1:=qJ ((bs l)[i]'h1);rw[k1]at hs1;have hs2:=qz ((bs l)[i]'h1);rw[k2]at hs2;have hv:((((bs l)[i]'h1).toNat:Nat):Int)=61:=by rw[k4'];rfl
 rw[hv]at hs1 hs2
 have hx:(bs l).extract i (i+1)=bs [61]:=by
  rw[jt,List.drop_eq_getElem_cons hi,k4,Nat.add_sub_cancel_left];rfl
 have hb1:((i:Nat):Int)+1≤((bs l).size:Int):=by omega
 clear k1 k2 k4 k4';have HS:Hid ((bs l).size=l.length):=hsz;clear hsz;go_enter Tryz.func25,Tryz.ntmps25
 go_wp2_with (first
  |(go_at_call 48;refine(hs1 _).mono ?_;rintro e w' ⟨rfl,rfl⟩)
  |(go_at_call 49;refine(hs2 _).mono ?_;rintro e w' ⟨rfl,rfl⟩))
 exact bodyPost_ret (v:= .tuple #[.agg (yo ⟨3,[61],0⟩ i),.int .i64 (((i+1):Nat):Int),.int .i64 0,.int .i64 (-1)]) (by simp[results,Tryz.results25,go_sem,yo]) rfl ⟨rfl,jV _⟩
theorem Ud{w:World}{l:List UInt8}{i:Nat}(hi:i<l.length)(hl:l.length≤2000)(k4:l[i]=59):
 Calls Tryz.prog 25 #[.string (bs l),.int .i64 (i:Nat)] w (xA w i ⟨3,[59],0⟩ (i+1) 0 (-1)):=by
 have hsz:=zJ l;have h1:i<(bs l).size:=by omega
 have h2:((i:Nat):Int)<((bs l).size:Int):=by omega
 have hi2:i≤2000:=by omega
 have hz2:(bs l).size≤2000:=by omega
 have k4':(bs l)[i]'h1=59:=by rw[qa];exact k4
 have k1:qx ((bs l)[i]'h1)=false:=by rw[k4'];decide
 have k2:zz ((bs l)[i]'h1)=false:=by rw[k4'];decide
 have hs1:=qJ ((bs l)[i]'h1);rw[k1]at hs1;have hs2:=qz ((bs l)[i]'h1);rw[k2]at hs2;have hv:((((bs l)[i]'h1).toNat:Nat):Int)=59:=by rw[k4'];rfl
 rw[hv]at hs1 hs2
 have hx:(bs l).extract i (i+1)=bs [59]:=by
  rw[jt,List.drop_eq_getElem_cons hi,k4,Nat.add_sub_cancel_left];rfl
 have hb1:((i:Nat):Int)+1≤((bs l).size:Int):=by omega
 clear k1 k2 k4 k4';have HS:Hid ((bs l).size=l.length):=hsz;clear hsz;go_enter Tryz.func25,Tryz.ntmps25
 go_wp2_with (first
  |(go_at_call 48;refine(hs1 _).mono ?_;rintro e w' ⟨rfl,rfl⟩)
  |(go_at_call 49;refine(hs2 _).mono ?_;rintro e w' ⟨rfl,rfl⟩))
 exact bodyPost_ret (v:= .tuple #[.agg (yo ⟨3,[59],0⟩ i),.int .i64 (((i+1):Nat):Int),.int .i64 0,.int .i64 (-1)]) (by simp[results,Tryz.results25,go_sem,yo]) rfl ⟨rfl,jV _⟩
theorem fh{w:World}{l:List UInt8}{i:Nat}(hi:i<l.length)(hl:l.length≤2000)(k1:qx l[i]=false)(k2:zz l[i]=false)(d1:l[i]≠36)(d2:l[i]≠40)(d3:l[i]≠41)(d4:l[i]≠44)(d5:l[i]≠61)(d6:l[i]≠59):
 Calls Tryz.prog 25 #[.string (bs l),.int .i64 (i:Nat)] w (xA w i ⟨0,[],0⟩ i 101 (i:Nat)):=by
 have hsz:=zJ l;have h1:i<(bs l).size:=by omega
 have h2:((i:Nat):Int)<((bs l).size:Int):=by omega
 have hi2:i≤2000:=by omega
 have hz2:(bs l).size≤2000:=by omega
 have hc1:qx ((bs l)[i]'h1)=false:=by rw[qa];exact k1
 have hs1:=qJ ((bs l)[i]'h1);rw[hc1]at hs1;clear hc1 k1;have hc2:zz ((bs l)[i]'h1)=false:=by rw[qa];exact k2
 have hs2:=qz ((bs l)[i]'h1);rw[hc2]at hs2;clear hc2 k2
 have hv:∀k:Nat,k<256→l[i]≠UInt8.ofNat k→(((((bs l)[i]'h1).toNat:Nat):Int)==(k:Int))=false:=by
  intro k hk hne;rw[←Bool.not_eq_true];intro e;apply hne;have e:=eq_of_beq e;rw[qa]at e;exact ud (by omega)
 have v1:(((((bs l)[i]'h1).toNat:Nat):Int)==36)=false:=hv 36 (by decide) d1;have v2:(((((bs l)[i]'h1).toNat:Nat):Int)==40)=false:=hv 40 (by decide) d2;have v3:(((((bs l)[i]'h1).toNat:Nat):Int)==41)=false:=hv 41 (by decide) d3;have v4:(((((bs l)[i]'h1).toNat:Nat):Int)==44)=false:=hv 44 (by decide) d4;have v5:(((((bs l)[i]'h1).toNat:Nat):Int)==61)=false:=hv 61 (by decide) d5;have v6:(((((bs l)[i]'h1).toNat:Nat):Int)==59)=false:=hv 59 (by decide) d6;have u1:¬((((bs l)[i]'h1).toNat:Nat):Int)=36:=by simpa using v1
 have u2:¬((((bs l)[i]'h1).toNat:Nat):Int)=40:=by simpa using v2
 have u3:¬((((bs l)[i]'h1).toNat:Nat):Int)=41:=by simpa using v3
 have u4:¬((((bs l)[i]'h1).toNat:Nat):Int)=44:=by simpa using v4
 have u5:¬((((bs l)[i]'h1).toNat:Nat):Int)=61:=by simpa using v5
 have u6:¬((((bs l)[i]'h1).toNat:Nat):Int)=59:=by simpa using v6
 clear hv;have HS:Hid ((bs l).size=l.length):=hsz;clear hsz;go_enter Tryz.func25,Tryz.ntmps25
 go_wp2_with (first
  |(go_at_call 48;refine(hs1 _).mono ?_;rintro e w' ⟨rfl,rfl⟩)
  |(go_at_call 49;refine(hs2 _).mono ?_;rintro e w' ⟨rfl,rfl⟩))
 exact bodyPost_ret (v:= .tuple #[.agg (yo ⟨0,[],0⟩ i),.int .i64 ((i:Nat):Int),.int .i64 101,.int .i64 (i:Nat)]) (by simp[results,Tryz.results25,go_sem,yo,Zj]) rfl ⟨rfl,jV _⟩
theorem dc{l:List UInt8}{p j:Nat}(hj:j<zS zz (l.drop p)):∃h:p+j<l.length,zz (l[p+j])=true:=by
 have hl:=v8 zz (l.drop p);rw[List.length_drop]at hl;have h:p+j<l.length:=by omega
 exact⟨h,(xY (by omega) h).1 hj⟩
theorem Fx{l:List UInt8}{p j:Nat}(h:p+j<l.length):val ((l.drop p).take (j+1))=10*val ((l.drop p).take j)+(l[p+j].toNat-48):=by
 have h2:j<(l.drop p).length:=by rw[List.length_drop];omega
 rw[List.take_succ_eq_append_getElem h2,Yh];simp
theorem zam{l:List UInt8}{p j:Nat}(hj:j≤zS zz (l.drop p))(h9:¬9<zS zz (l.drop p)):val ((l.drop p).take j)<1000000000:=by
 have h1:=JF ((l.drop p).take j) (λc hc=>Js (p:=zz) (x:=l.drop p) c (by
  have :(l.drop p).take j=((l.drop p).take (zS zz (l.drop p))).take j:=by rw[List.take_take,Nat.min_eq_left hj]
  rw[this]at hc
  exact List.mem_of_mem_take hc))
 have h2:10 ^ ((l.drop p).take j).length≤10 ^ 9:=Nat.pow_le_pow_right (by decide) (by rw[List.length_take];omega);exact Nat.lt_of_lt_of_le h1 h2
structure Xx (w wr:World) (V i:Nat):Prop where
 tok:zm wr (w.heap.size+1) 78 #[.int .i64 1,.string ⟨#[]⟩,.int .i64 (V:Nat),.int .i64 (i:Nat)]
 res:zm wr w.heap.size 78 #[.int .i64 0,.string ⟨#[]⟩,.int .i64 0,.int .i64 0]
 below:Below w.heap.size w wr
theorem Xx.step{w wr:World}{V i:Nat}(h:Xx w wr V i){V':Nat}{z:Int}(hz:z=(V':Nat)):Xx w (wr.setCell ⟨w.heap.size+1,2,none⟩ (.int .i64 z)) V' i:=by
 subst hz;have h':wr.heap[w.heap.size+1]?=some (.cells #[.int .i64 1,.string ⟨#[]⟩,.int .i64 (V:Nat),.int .i64 (i:Nat)] 78 (0,0)):=h.tok;refine⟨?_,h.res.other (show w.heap.size≠w.heap.size+1 by omega) _,h.below.setCell (p:=⟨w.heap.size+1,2,none⟩) (by simp) _⟩;show(wr.setCell ⟨w.heap.size+1,2,none⟩ (.int .i64 (V':Nat))).heap[w.heap.size+1]?=_;simp[World.setCell,Array.getElem?_modify,h']
theorem Xx.drew{w wr:World}{V i:Nat}(h:Xx w wr V i):Xx w wr.drew V i:=⟨h.tok,h.res,⟨h.below.os,h.below.tape,h.below.output,h.below.size,h.below.block⟩⟩
theorem Xx.last{w wr:World}{V i:Nat}(h:Xx w wr V i){v0 v1 v2 v3:Value}:Below w.heap.size w ((((wr.setCell ⟨w.heap.size,0,none⟩ v0).setCell ⟨w.heap.size,1,none⟩ v1).setCell ⟨w.heap.size,2,none⟩ v2).setCell ⟨w.heap.size,3,none⟩ v3):=
 (((h.below.setCell (p:=⟨w.heap.size,0,none⟩) (Nat.le_refl _) v0).setCell (p:=⟨w.heap.size,1,none⟩) (Nat.le_refl _) v1).setCell (p:=⟨w.heap.size,2,none⟩) (Nat.le_refl _) v2).setCell (p:=⟨w.heap.size,3,none⟩) (Nat.le_refl _) v3
theorem DW{w:World}{l:List UInt8}{i:Nat}(hi:i<l.length)(hl:l.length≤2000)(k1:qx l[i]=false)(k2:zz l[i]=true)(h:¬9<zS zz (l.drop i))(k3:yu (l.drop (i+zS zz (l.drop i)))=false):
 Calls Tryz.prog 25 #[.string (bs l),.int .i64 (i:Nat)] w (xA w i ⟨1,[],val ((l.drop i).take (zS zz (l.drop i)))⟩ (i+zS zz (l.drop i)) 0 (-1)):=by
 have hsz:=zJ l;have h1:i<(bs l).size:=by omega
 have h2:((i:Nat):Int)<((bs l).size:Int):=by omega
 have hi2:i≤2000:=by omega
 have hz2:(bs l).size≤2000:=by omega
 have hc1:qx ((bs l)[i]'h1)=false:=by rw[qa];exact k1
 have hs1:=qJ ((bs l)[i]'h1);rw[hc1]at hs1;have hc2:zz ((bs l)[i]'h1)=true:=by rw[qa];exact k2
 have hs2:=qz ((bs l)[i]'h1);rw[hc2]at hs2;have hen:=λW=>Z4 l i W hl (by omega)
 have hfg:∀j,j<zS zz (l.drop i)→∃h:i+j<l.length,zz (l[i+j])=true:=λj hj=>dc hj
 have hvl:∀j,j≤zS zz (l.drop i)→val ((l.drop i).take j)<1000000000:=λj hj=>zam hj h
 obtain⟨n,hn⟩:∃n,n=zS zz (l.drop i):=⟨_,rfl⟩
 rw[←hn]at hen hfg hvl h k3 ⊢
 obtain⟨J,hJ⟩:∃J,J=i+n:=⟨_,rfl⟩
 have hJl:J≤l.length:=by
  have:=v8 zz (l.drop i);rw[List.length_drop]at this;omega
 rw[←hJ]at hen ⊢;have hJ2:J≤2000:=by omega
 have hba:=λW=>ZP l J W hl hJl
 rw[show yu (l.drop J)=false by rw[hJ];exact k3]at hba;have g1:¬(9:Int)<((J:Nat):Int)-((i:Nat):Int):=by omega
 have HS:Hid ((bs l).size=l.length):=hsz;have HJ:Hid (J=i+n):=hJ;clear hsz hc1 hc2 k1 k2 k3 hn hJ;go_enter Tryz.func25,Tryz.ntmps25
 go_wp2_with (first
  |(go_at_call 48;refine(hs1 _).mono ?_;rintro e w' ⟨rfl,rfl⟩)
  |(go_at_call 49;refine(hs2 _).mono ?_;rintro e w' ⟨rfl,rfl⟩)
  |(go_at_call 50;refine(hen _).mono ?_;rintro e w' ⟨rfl,rfl⟩)
  |(go_at_call 51;refine(hba _).mono ?_;rintro e w' ⟨rfl,rfl⟩))
 go_loopw [15] (λz wr=>∃k:Nat,k≤n∧z= .int .i64 ((i+k:Nat):Int)∧Xx w wr (val ((l.drop i).take k)) i) (λz _=>2000-(intOf z).toNat)
 case atStart=>exact⟨0,Nat.zero_le _,rfl,zm.new_at (by simp),(zm.new_at rfl).alloc _,jV _⟩
 case round =>
  obtain⟨k,hk,rfl,hN⟩:=hrel;have hv9:=hvl k hk
  obtain⟨P,hP⟩:∃P,P=i+k:=⟨_,rfl⟩
  rw[←hP];have HP:Hid (P=i+k):=hP;have hP2:P≤2000:=by have:=HJ.out;omega
  clear hP;by_cases hlt:k<n
  ·obtain⟨x1,x2⟩:=hfg k hlt
   have a1:P<(bs l).size:=by rw[HS.out,HP.out];exact x1
   have a2:((P:Nat):Int)<((bs l).size:Int):=by omega
   have a3:((P:Nat):Int)<((J:Nat):Int):=by have h8:=HP.out;have h9:=HJ.out;omega
   have y3:(bs l)[P]'a1=l[i+k]:=by rw[qa];simp only[HP.out]
   rw[V9,Bool.and_eq_true,decide_eq_true_eq,decide_eq_true_eq]at x2;have x3:48≤((((bs l)[P]'a1).toNat:Nat):Int)∧((((bs l)[P]'a1).toNat:Nat):Int)≤57:=by rw[y3];exact x2
   have hvn:=Fx x1
   have HVN:Hid (((val ((l.drop i).take (k+1)):Nat):Int)=10*((val ((l.drop i).take k):Nat):Int)+(((((bs l)[P]'a1).toNat:Nat):Int)-48)):=by
    show _=_;rw[hvn,y3];omega
   have hstep:=λz hz=>hN.step (V':=val ((l.drop i).take (k+1))) (z:=z) hz
   generalize val ((l.drop i).take k)=V at hv9 HVN hN hstep;have c2:wr.cell? ⟨w.heap.size+1,2,none⟩=some (.int .i64 (V:Nat)):=hN.tok.cell 2;have f2:=hN.tok.free 2;obtain⟨x4,x5⟩:=x3;clear hvn y3 x2 hfg hvl
   go_wp2
   go_region
   all_goals
    go_wp2
    go_roundw
    case rel=>exact⟨k+1,by omega,by have:=HP.out;go_num,(hstep _ HVN.out.symm).drew⟩
    case measure=>simp[intOf];omega
  ·have hkn:k=n:=by omega
   subst hkn;have a3:¬((P:Nat):Int)<((J:Nat):Int):=by have h8:=HP.out;have h9:=HJ.out;omega
   obtain⟨V,hV⟩:∃V,V=val ((l.drop i).take k):=⟨_,rfl⟩
   rw[←hV]at hv9 hN;have HV:Hid (V=val ((l.drop i).take k)):=hV;clear hV;have c0:wr.cell? ⟨w.heap.size+1,0,none⟩=some (.int .i64 1):=hN.tok.cell 0;have c1:wr.cell? ⟨w.heap.size+1,1,none⟩=some (.string ⟨#[]⟩):=hN.tok.cell 1;have c2:wr.cell? ⟨w.heap.size+1,2,none⟩=some (.int .i64 (V:Nat)):=hN.tok.cell 2;have c3:wr.cell? ⟨w.heap.size+1,3,none⟩=some (.int .i64 (i:Nat)):=hN.tok.cell 3;have r0:wr.cell? ⟨w.heap.size,0,none⟩=some (.int .i64 0):=hN.res.cell 0;have r1:wr.cell? ⟨w.heap.size,1,none⟩=some (.string ⟨#[]⟩):=hN.res.cell 1;have r2:wr.cell? ⟨w.heap.size,2,none⟩=some (.int .i64 0):=hN.res.cell 2;have r3:wr.cell? ⟨w.heap.size,3,none⟩=some (.int .i64 0):=hN.res.cell 3;have f0:=hN.res.free 0;have f1:=hN.res.free 1;have f2:=hN.res.free 2;have f3:=hN.res.free 3;clear hfg hvl
   go_wp2
   exact bodyPost_ret (v:= .tuple #[.agg (yo ⟨1,[],V⟩ i),.int .i64 ((J:Nat):Int),.int .i64 0,.int .i64 (-1)]) (by simp[results,Tryz.results25,go_sem,yo,Zj,r0,r1,r2,r3]) rfl ⟨by rw[HV.out],hN.last⟩
theorem zao{w:World}{l:List UInt8}{i n:Nat}{t:Tk}(hi:i<l.length)(hl:l.length≤2000)(h:one (l.drop i)= .ok (t,n)):
 Calls Tryz.prog 25 #[.string (bs l),.int .i64 (i:Nat)] w (xA w i t (i+n) 0 (-1)):=by
 rw[X3 hi]at h
 split at h
 ·rename_i k1
  split at h
  ·cases h
  ·rename_i hn
   cases h;exact Fq hi hl k1 hn
 ·rename_i k1
  have k1:qx l[i]=false:=by simpa using k1
  split at h
  ·rename_i k2
   split at h
   ·cases h
   ·rename_i hn
    split at h
    ·cases h
    ·rename_i hla
     cases h;exact DW hi hl k1 k2 hn (by simpa using hla)
  ·rename_i k2
   split at h
   ·rename_i k4
    have k4:=eq_of_beq k4
    split at h
    ·cases h
    ·rename_i h0
     split at h
     ·cases h
     ·rename_i hn
      split at h
      ·cases h
      ·rename_i hla
       cases h;rw[show i+(zS zG (l.drop (i+1))+1)=i+1+zS zG (l.drop (i+1)) by omega];exact Hq hi hl k4 h0 hn (by simpa using hla)
   ·split at h
    ·rename_i k5
     cases h;rcases YQ k5 with e|e|e|e|e
     ·rw[e];exact KY hi hl e
     ·rw[e];exact UN hi hl e
     ·rw[e];exact US hi hl e
     ·rw[e];exact kh hi hl e
     ·rw[e];exact Ud hi hl e
    ·cases h
def zbE(w:World)(i er o:Nat)(e:Ending)(w':World):Prop:=∃t E,xA w i t E (er:Nat) ((i+o:Nat):Int) e w'
theorem Df{w:World}{l:List UInt8}{i er o:Nat}(hi:i<l.length)(hl:l.length≤2000)(h:one (l.drop i)= .error (er,o)):
 Calls Tryz.prog 25 #[.string (bs l),.int .i64 (i:Nat)] w (zbE w i er o):=by
 rw[X3 hi]at h
 split at h
 ·rename_i k1
  split at h
  ·rename_i hn
   cases h;exact(UY hi hl k1 hn).mono λe w' hr=>⟨_,_,hr⟩
  ·cases h
 ·rename_i k1
  have k1:qx l[i]=false:=by simpa using k1
  split at h
  ·rename_i k2
   split at h
   ·rename_i hn
    cases h;exact(Fj hi hl k1 k2 hn).mono λe w' hr=>⟨_,_,hr⟩
   ·rename_i hn
    split at h
    ·rename_i hla
     cases h;exact(F4 hi hl k1 k2 hn hla).mono λe w' hr=>⟨_,_,hr⟩
    ·cases h
  ·rename_i k2
   have k2:zz l[i]=false:=by simpa using k2
   split at h
   ·rename_i k4
    have k4:=eq_of_beq k4
    split at h
    ·rename_i h0
     cases h;exact(FL hi hl k4 h0).mono λe w' hr=>⟨_,_,hr⟩
    ·rename_i h0
     split at h
     ·rename_i hn
      cases h;exact(fo hi hl k4 hn).mono λe w' hr=>⟨_,_,hr⟩
     ·rename_i hn
      split at h
      ·rename_i hla
       cases h;rw[show zS zG (l.drop (i+1))+1=1+zS zG (l.drop (i+1)) by omega];have hb:=g9 (w:=w) hi hl k4 h0 hn hla;rw[show i+1+zS zG (l.drop (i+1))=i+(1+zS zG (l.drop (i+1))) by omega]at hb;exact hb.mono λe w' hr=>⟨_,_,hr⟩
      ·cases h
   ·rename_i d1
    split at h
    ·cases h
    ·rename_i d2
     cases h;simp[JV]at d2;exact(fh hi hl k1 k2 (by simpa using d1) d2.1.1.1.1 d2.1.1.1.2 d2.1.1.2 d2.1.2 d2.2).mono λe w' hr=>⟨_,_,hr⟩
def yh:Nat→List UInt8→Nat→Nat→Except (Nat×Nat) zL
 |0,_,_,_=> .ok []
 |f+1,x,a,k =>
  if x.drop (jO false x)= []then .ok []else
  if k=500 then .error (103,a+jO false x)else
  match one (x.drop (jO false x))with
  | .error (e,o)=> .error (e,a+jO false x+o)
  | .ok (t,n)=>Zf [(t,a+jO false x)] (yh f (x.drop (jO false x+n)) (a+jO false x+n) (k+1))
def jN(l:List UInt8):Except (Nat×Nat) zL:=if 2000<l.length then .error (103,0)else yh (l.length+1) l 0 0
theorem DN(f:Nat):∀(x:List UInt8) (a k:Nat) (ts:zL),yh f x a k= .ok ts↔ZY f x a k= .ok ts:=by
 induction f with
 |zero=>intro x a k ts;exact Iff.rfl
 |succ f ih =>
  intro x a k ts;by_cases hne:x.drop (jO false x)= []
  ·rw[Yq hne,yh,if_pos hne]
  ·rw[yh,if_neg hne]
   by_cases h5:k=500
   ·subst h5
    rw[if_pos rfl];cases hr:one (x.drop (jO false x))with
    |error e=>obtain⟨e,o⟩:=e;rw[Ju hne hr];constructor<;>intro h<;>cases h
    |ok r=>obtain⟨t,n⟩:=r;rw[JD hne hr]
   ·rw[if_neg h5]
    cases hr:one (x.drop (jO false x))with
    |error e=>obtain⟨e,o⟩:=e;rw[Ju hne hr]
    |ok r =>
     obtain⟨t,n⟩:=r;rw[JI hne hr h5];have hi:=ih (x.drop (jO false x+n)) (a+jO false x+n) (k+1);simp only;generalize yh f (x.drop (jO false x+n)) (a+jO false x+n) (k+1)=A at hi ⊢;generalize ZY f (x.drop (jO false x+n)) (a+jO false x+n) (k+1)=C at hi ⊢;cases A with
     |ok us=>rw[(hi us).1 rfl]
     |error e =>
      cases C with
      |ok us=>have:=(hi us).2 rfl;cases this
      |error e'=>constructor<;>intro h<;>cases h
theorem ZL(l:List UInt8)(ts:zL):jN l= .ok ts↔vL l= .ok ts:=by
 unfold jN vL
 split
 ·constructor<;>intro h<;>cases h
 ·exact DN _ _ _ _ _
theorem FU{f:Nat}{x:List UInt8}{a k:Nat}(h:x.drop (jO false x)= []):yh (f+1) x a k= .ok []:=by rw[yh,if_pos h]
theorem U3{f:Nat}{x:List UInt8}{a:Nat}(h:x.drop (jO false x)≠ []):yh (f+1) x a 500= .error (103,a+jO false x):=by rw[yh,if_neg h,if_pos rfl]
theorem fa{f:Nat}{x:List UInt8}{a k e o:Nat}(h:x.drop (jO false x)≠ [])(hk:k≠500)(ho:one (x.drop (jO false x))= .error (e,o)):yh (f+1) x a k= .error (e,a+jO false x+o):=by simp only[yh,if_neg h,if_neg hk,ho]
theorem GB{f:Nat}{x:List UInt8}{a k:Nat}{t:Tk}{n:Nat}(h:x.drop (jO false x)≠ [])(hk:k≠500)(ho:one (x.drop (jO false x))= .ok (t,n)):
 yh (f+1) x a k=Zf [(t,a+jO false x)] (yh f (x.drop (jO false x+n)) (a+jO false x+n) (k+1)):=by simp only[yh,if_neg h,if_neg hk,ho]
def zaH(w wr:World)(l:List UInt8)(v:Value)(i:Nat)(ts:zL):Prop:=i≤l.length∧Below w.heap.size w wr∧vn wr w.heap.size v ts∧ts.length≤500∧∃f,l.length-i≤f∧jN l=Zf ts (yh (f+1) (l.drop i) i ts.length)
theorem Vs(w:World)(l:List UInt8)(h:2000<l.length)(hm:l.length≤maxLen):Calls Tryz.prog 13 #[.string (bs l)] w (VT w (jN l)):=by
 unfold maxLen at hm;have hsz:=zJ l;have h1:(2000:Int)<((bs l).size:Int):=by omega
 have HR:Hid (jN l= .error (103,0)):=by show jN l=_;unfold jN;rw[if_pos h]
 clear hsz;go_enter Tryz.func13,Tryz.ntmps13
 go_wp2
 go_ret3
 exact⟨Below.refl _ _,by rw[HR.out];rfl⟩
theorem G0(w:World)(l:List UInt8)(h:¬2000<l.length):Calls Tryz.prog 13 #[.string (bs l)] w (VT w (jN l)):=by
 have hl:l.length≤2000:=by omega
 have hsz:=zJ l;have h1:¬(2000:Int)<((bs l).size:Int):=by omega
 have HS:Hid ((bs l).size=l.length):=hsz;have hp:=λW=>gh l 0 W hl (Nat.zero_le _)
 clear hsz;simp only[Nat.zero_add]at hp;go_enter Tryz.func13,Tryz.ntmps13
 go_wp2_with (go_at_call 24;refine(hp _).mono ?_;rintro e w1 ⟨rfl,hw1⟩;obtain rfl:w=w1:=hw1.symm)
 go_loopw [5,6] (λv z wr=>∃(i:Nat) (ts:zL),zaH w wr l v i ts∧z= .int .i64 ((i+jO false (l.drop i):Nat):Int)) (λ_ z _=>2000-(intOf z).toNat)
 case atStart=>exact⟨0,[],⟨Nat.zero_le _,Below.refl _ _,vn.empty _ _,by simp,l.length,by omega,by rw[YN];unfold jN;rw[if_neg h];rfl⟩,by simp⟩
 case round =>
  clear hp;obtain⟨i,ts,hA,rfl⟩:=hrel;have hle:=Hl false (l.drop i);rw[List.length_drop]at hle;obtain⟨hi,hbw,hrow,h500,f,hf,heq⟩:=hA;obtain⟨A,C,rfl⟩:=Qs hrow
  obtain⟨J,hJ⟩:∃J,J=i+jO false (l.drop i):=⟨_,rfl⟩
  have hJ2:J≤2000:=by omega
  have HJ:Hid (J=i+jO false (l.drop i)):=hJ;rw[←hJ]
  obtain⟨M,hM⟩:∃M,M=ts.length:=⟨_,rfl⟩
  have HM:Hid (M=ts.length):=hM;rw[←hM]at h500 hrow heq ⊢;have hM2:M≤500:=h500;clear hM h500 hle;have hdd:(l.drop i).drop (jO false (l.drop i))=l.drop J:=by rw[List.drop_drop,←hJ]
  by_cases hlt:J<l.length
  ·have h2:((J:Nat):Int)<((bs l).size:Int):=by rw[HS.out];omega
   have hne:(l.drop i).drop (jO false (l.drop i))≠ []:=by
    rw[hdd];intro e;have:=congrArg List.length e;simp at this;omega
   by_cases h5:M=500
   ·subst h5
    rw[U3 hne,←hJ]at heq;have HB:Hid (jN l= .error (103,J)):=heq;clear heq hne hdd hJ
    go_wp2
    go_ret3
    exact⟨hbw,by rw[HB.out];rfl⟩
   ·have h5':¬((M:Nat):Int)=500:=by omega
    cases ho:one (l.drop J)with
    |error r =>
     obtain⟨er,o⟩:=r;rw[fa hne h5 (by rw[hdd];exact ho),←hJ]at heq;have HB:Hid (jN l= .error (er,J+o)):=heq;have ht:=λW=>Df (w:=W) hlt hl ho
     have her:¬((er:Nat):Int)=0:=by rcases Vi ho with e|⟨e,_⟩<;>omega
     obtain⟨Z,hZ⟩:∃Z,Z=J+o:=⟨_,rfl⟩
     unfold zbE at ht;rw[←hZ]at ht;have HZ:Hid (Z=J+o):=hZ;clear heq hne hdd hJ ho hZ
     go_wp2_with (go_at_call 25;refine(ht _).mono ?_;rintro e w2 ⟨t,E,rfl,hb2⟩;simp only[yo])
     go_ret3
     exact⟨Vl hbw hb2 _,by rw[HB.out,←HZ.out];rfl⟩
    |ok r =>
     obtain⟨t,n⟩:=r;have hn:=XO ho;rw[List.length_drop]at hn;rw[GB hne h5 (by rw[hdd];exact ho),←hJ,Vd,List.drop_drop,show i+(jO false (l.drop i)+n)=J+n by omega]at heq;have ht:=λW=>zao (w:=W) hlt hl ho
     have hp:=λW=>gh l (J+n) W hl (by omega)
     obtain⟨E,hE⟩:∃E,E=J+n:=⟨_,rfl⟩
     rw[←hE]at hp ht heq;have hE1:J<E:=by omega
     have hE2:E≤2000:=by omega
     have hEl:E≤l.length:=by omega
     have HQ:Hid (jN l=Zf (ts++ [(t,J)]) (yh f (l.drop E) E (M+1))):=heq;clear heq hne hdd hJ ho hE
     go_wp2_with (first
      |(go_at_call 25;refine(ht _).mono ?_;rintro e w2 ⟨rfl,hb2⟩;simp only[yo])
      |(go_at_call 24;refine(hp _).mono ?_;rintro e w4 ⟨rfl,hw4⟩;obtain rfl:w3=w4:=hw4.symm)
      |(refine zi 39 rfl ?_
        refine Zg rfl _ _ rfl w.heap.size _ ts rfl (((hrow.below hb2).below ((Below.refl _ _).alloc (Nat.le_refl _) _)).below ((Below.refl _ _).alloc (Nat.le_refl _) _)) (w2.heap.size+1) t J rfl (zm.new_at (by simp)) (by rw[←HM.out];exact hM2) (by have:=hbw.size;have:=hb2.size;simp;omega) ?_
        intro v' w3 hr3 hb3))
     go_roundw
     case rel =>
      have hJi:i≤J:=by have:=HJ.out;omega
      refine⟨E,ts++ [(t,J)],⟨hEl,gg hbw hb2 hb3 (Below.refl _ _),hr3,by rw[List.length_append,←HM.out];simp;omega,f-1,by omega,?_⟩,rfl⟩;rw[HQ.out,List.length_append,←HM.out,show f-1+1=f by omega];rfl
     case measure=>simp[intOf];omega
  ·have h2:¬((J:Nat):Int)<((bs l).size:Int):=by rw[HS.out];omega
   rw[FU (by rw[hdd];exact List.drop_eq_nil_of_le (by omega))]at heq;have HB:Hid (jN l= .ok ts):=by show jN l=_;rw[heq];simp[Zf]
   clear heq hJ hdd
   go_wp2
   go_ret3
   exact⟨hbw,by rw[HB.out];exact⟨_,rfl,hrow⟩⟩
def ul(w:World)(R:Except (Nat×Nat) Nd)(e:Ending)(w':World):Prop:=Below w.heap.size w w'∧match R with
 | .error _=>∃c k:Int,c≠0∧e= .returned (.tuple #[.agg #[.string ⟨#[]⟩,.string ⟨#[]⟩,.int .i64 0,.int .i64 0,.slice none 0 0],.int .i64 c,.int .i64 k])
 | .ok n=>∃A C,e= .returned (.tuple #[.agg (qD n (.slice A n.l.length C)),.int .i64 0,.int .i64 (-1)])∧yn w' (λg=>w.heap.size≤g) n.l (.slice A n.l.length C)
theorem U4(f:Nat):∀(x:List UInt8) (a k:Nat) (e o:Nat),yh f x a k= .error (e,o)→e≠0:=by
 induction f with
 |zero=>intro x a k e o h;cases h
 |succ f ih =>
  intro x a k e o h;rw[yh]at h
  split at h
  ·cases h
  ·split at h
   ·cases h;decide
   ·split at h
    ·rename_i e' o' ho
     cases h;rcases Vi ho with rfl|⟨rfl,_⟩<;>decide
    ·rename_i t n ho
     cases hs:yh f (x.drop (jO false x+n)) (a+jO false x+n) (k+1)with
     |error r =>
      obtain⟨e',o'⟩:=r;rw[hs]at h;cases h;exact ih _ _ _ _ _ hs
     |ok ts=>rw[hs]at h;cases h
theorem Kh{l:List UInt8}{e o:Nat}(h:jN l= .error (e,o)):e≠0:=by
 unfold jN at h
 split at h
 ·cases h;decide
 ·exact U4 _ _ _ _ _ _ h
theorem Xe{en:Nat}{ts r:zL}{n:Nd}(h:jC en ts= .ok (n,r)):r.length<ts.length:=by
 have h':zU (qi (ZH xF)) (λt=>zU (qi yp) λu=>zU (xi t.1.s) λr=>zU (qi (xE [59])) λ_=>vD (.mk t.1.s u.1.s r.1 t.2 r.2)) en ts= .ok (n,r):=h;cases ts with
 |nil=>cases h'
 |cons t ts =>
  simp only[zU,qi]at h';by_cases hw:ZH xF t.1=true
  ·rw[if_pos hw]at h'
   have hst:zQ (zU (qi yp) λu=>zU (xi t.1.s) λr=>zU (qi (xE [59])) λ_=>vD (Nd.mk t.1.s u.1.s r.1 (t.2:Nat) r.2)):=(zQ.take _).bind λ_=>(J0 _).bind λ_=>(zQ.take _).bind λ_=>zQ.ret _
   have:=gm hst (en:=en) (ts:=ts) (r:=r) (n:=n) (by simpa only[zU,qi]using h');simp only[List.length_cons];omega
  ·rw[if_neg hw]at h'
   cases h'
structure KI (w W0:World) (rb:Nat) (A:Option Addr) (C:Nat) (ts:zL) (en:Nat) (wr:World) (i:Nat) (b:Int) (l:List Nd) (v:Value):Prop where
 st:jQ W0 rb A C ts 0 en wr i b
 hp:zm wr w.heap.size 24 #[.string ⟨#[]⟩,.string ⟨#[]⟩,.int .i64 0,.int .i64 0,.slice none 0 0]
 hq:zm wr (rb+1) 24 #[.string ⟨#[102,105,108,101]⟩,.string ⟨#[]⟩,.int .i64 0,.int .i64 0,v]
 row:xI wr (rb+2) l v
 bel:Below w.heap.size w W0
 lt:w.heap.size<rb
 hw:W0.heap.size=rb+1
theorem KI.rst{w W0:World}{rb:Nat}{A:Option Addr}{C:Nat}{ts:zL}{en:Nat}{wr:World}{i:Nat}{b:Int}{l:List Nd}{v:Value}(h:KI w W0 rb A C ts en wr i b l v){w':World}{i2:Nat}{b2:Int}(s:jQ wr rb A C ts i en w' i2 b2):KI w W0 rb A C ts en w' i2 b2 l v:=by
 have hk:=s.2.2.1;have hlt:=h.lt;exact⟨h.st.trans s,h.hp.kp hk (by omega),h.hq.kp hk (by omega),h.row.kp hk (by omega),h.bel,hlt,h.hw⟩
theorem KI.alloc{w W0:World}{rb:Nat}{A:Option Addr}{C:Nat}{ts:zL}{en:Nat}{wr:World}{i:Nat}{b:Int}{l:List Nd}{v:Value}(h:KI w W0 rb A C ts en wr i b l v)(o:Obj):KI w W0 rb A C ts en (wr.alloc o) i b l v:=⟨h.st.alloc o,h.hp.alloc o,h.hq.alloc o,h.row.kp (Kp.of (p:=rb) (zl wr o)) (by omega),h.bel,h.lt,h.hw⟩
theorem KI.drewN{w W0:World}{rb:Nat}{A:Option Addr}{C:Nat}{ts:zL}{en:Nat}{wr:World}{i:Nat}{b:Int}{l:List Nd}{v:Value}(h:KI w W0 rb A C ts en wr i b l v)(n:Nat):KI w W0 rb A C ts en (wr.drewN n) i b l v:=⟨h.st.drewN n,h.hp.drewN n,h.hq.drewN n,h.row.kp ((Kp.refl rb wr).drewN n) (by omega),h.bel,h.lt,h.hw⟩
theorem KI.put{w W0:World}{rb:Nat}{A:Option Addr}{C:Nat}{ts:zL}{en:Nat}{wr:World}{i:Nat}{b:Int}{l:List Nd}{v:Value}(h:KI w W0 rb A C ts en wr i b l v){w6:World}{l':List Nd}{v6:Value}(hr:xI w6 (rb+2) l' v6)(hb:Below (rb+2) wr w6):KI w W0 rb A C ts en (w6.setCell ⟨rb+1,4,none⟩ v6) i b l' v6:=by
 have hlt:=h.lt;have hw:=h.hw;refine⟨(h.st.below hb (by omega) (by omega)).new (q:=⟨rb+1,4,none⟩) (by show _≤rb+1;omega) (by omega) _,(h.hp.below hb (by omega)).other (by show w.heap.size≠rb+1;omega) _,?_,hr.kp ((Kp.refl (rb+1) w6).setP 4 v6) (by omega),h.bel,hlt,hw⟩;exact(h.hq.below hb (by omega)).putP 4 v6
theorem KI.all{w W0:World}{rb:Nat}{A:Option Addr}{C:Nat}{ts:zL}{en:Nat}{wr:World}{i:Nat}{b:Int}{l:List Nd}{v:Value}(h:KI w W0 rb A C ts en wr i b l v):Below w.heap.size w wr:=h.bel.trans ((h.st.2.2.1.below (by have:=h.hw;omega)).mono (by have:=h.lt;omega))
def zaB(rb:Nat)(w:World):Nat:=match w.cell? ⟨rb,3,none⟩with
 |some (.int _ b)=>if b=0 then 502-ka rb w else 0
 |_=>0
theorem KI.far{w W0:World}{rb:Nat}{A:Option Addr}{C:Nat}{ts:zL}{en:Nat}{wr:World}{i:Nat}{b:Int}{l:List Nd}{v:Value}(h:KI w W0 rb A C ts en wr i b l v):zaB rb wr=if b=0 then 502-i else 0:=by
 obtain⟨k',hH⟩:=h.st.2.2.2;have h1:=hH.cell 1;have h3:=hH.cell 3;simp only[qH,qG,qI]at h1 h3;unfold zaB ka;rw[h3,h1];simp
theorem uZ{w W:World}{a:Act}{R:Except (Nat×Nat) Nd}{er:Nat×Nat}{c k:Int}(hR:R= .error er)(hc:c≠0)(hp:zm W w.heap.size 24 #[.string ⟨#[]⟩,.string ⟨#[]⟩,.int .i64 0,.int .i64 0,.slice none 0 0])(hb:Below w.heap.size w W)(h2:a.tmps[2]?.getD undef= .pointer (some ⟨w.heap.size,0,none⟩))(h3:a.tmps[3]?.getD undef= .int .i64 c)(h4:a.tmps[4]?.getD undef= .int .i64 k)(hd:a.defers= []):bodyPost Tryz.prog Tryz.f5 (ul w R) .ret a (Qj W w.heap.size (.string ⟨#[]⟩) (.string ⟨#[]⟩) (.int .i64 0) (.int .i64 0) (.slice none 0 0)):=by
 refine JN rfl h2 h3 h4 (hp.set5 _ _ _ _ _) hd ?_;rw[hR];exact⟨zb2 hb _ _ _ _ _,c,k,hc,rfl⟩
theorem Va{w W:World}{a:Act}{R:Except (Nat×Nat) Nd}{er:Nat×Nat}{c k:Int}(hR:R= .error er)(hc:c≠0)(hp:zm W w.heap.size 24 #[.string ⟨#[]⟩,.string ⟨#[]⟩,.int .i64 0,.int .i64 0,.slice none 0 0])(hb:Below w.heap.size w W)(h2:a.tmps[2]?.getD undef= .pointer (some ⟨w.heap.size,0,none⟩))(h3:a.tmps[3]?.getD undef= .int .i64 c)(h4:a.tmps[4]?.getD undef= .int .i64 k)(hd:a.defers= []):bodyPost Tryz.prog Tryz.f5 (ul w R) .ret a (Qj W w.heap.size (.string ⟨#[]⟩) (.string ⟨#[]⟩) (.int .i64 0) (.int .i64 0) (.slice none 0 0)).drew:=by
 refine JN rfl h2 h3 h4 (zt (hp.set5 _ _ _ _ _)) hd ?_;rw[hR];exact⟨zr (zb2 hb _ _ _ _ _),c,k,hc,rfl⟩
theorem Dr{w1:World}{base en:Nat}{A:Option Addr}{C:Nat}{ts:zL}(h:vn w1 base (.slice A ts.length C) ts)(hl:ts.length≤500)(he:en≤2000):zT (w1.alloc (.cells #[.slice A ts.length C,.int .i64 0,.int .i64 (en:Nat),.int .i64 0,.int .i64 0] 49)) w1.heap.size A C ts 0 en 0 0:=by
 have hb:=zl w1 (.cells #[.slice A ts.length C,.int .i64 0,.int .i64 (en:Nat),.int .i64 0,.int .i64 0] 49);refine⟨zm.new _ _ _,λj hj=>?_,Nat.zero_le _,hl,he⟩;obtain⟨g,C',e,h1,h2,h3,h4,_,hc⟩:=h.lies (by intro e;rw[e]at hj;simp at hj);cases e;refine⟨g,0,rfl,Nat.lt_of_lt_of_le h2 hb.size,by omega,λi hi j hj=>?_⟩;rw[Nat.zero_add];exact(hb.cell (p:=⟨g,i*4+j,none⟩) h2).trans (hc i hi j hj)
theorem Uq(x:List UInt8)(w:World)(hm:x.length≤maxLen):Calls Tryz.prog 5 #[.string (bs x)] w (ul w (xh x)):=by
 have hN:=zm.new w 24 #[.string ⟨#[]⟩,.string ⟨#[]⟩,.int .i64 0,.int .i64 0,.slice none 0 0]
 have hsc:Calls Tryz.prog 13 #[.string (bs x)] (w.alloc (.cells #[.string ⟨#[]⟩,.string ⟨#[]⟩,.int .i64 0,.int .i64 0,.slice none 0 0] 24)) (VT (w.alloc (.cells #[.string ⟨#[]⟩,.string ⟨#[]⟩,.int .i64 0,.int .i64 0,.slice none 0 0] 24)) (jN x)):=by
  by_cases hl:2000<x.length
  ·exact Vs _ x hl hm
  ·exact G0 _ x hl
 have hsz:=zJ x;cases hS:jN x with
 |error r =>
  obtain⟨er,o⟩:=r;have he:=Kh hS
  have hPx:∃er,xh x= .error er:=by
   cases hs:vL x with
   |error e=>exact⟨e,by unfold xh;rw[hs]⟩
   |ok ts=>rw[(ZL x ts).2 hs]at hS;cases hS
  obtain⟨e0,hP⟩:=hPx;rw[hS]at hsc;have hc0:((er:Nat):Int)≠0:=by omega
  have hd1:((er:Int)==0)=false:=by rw[beq_eq_false_iff_ne];omega
  have hd2:((er:Int) != 0)=true:=by rw[bne,hd1];rfl
  have hd3:decide ((er:Int)=0)=false:=decide_eq_false hc0;have hd4:decide (er=0)=false:=decide_eq_false he;clear hS hsz;go_enter Tryz.func5,Tryz.ntmps5
  go_wp2_with (first
   |((go_at_call 13)
     refine hsc.mono ?_;rintro e w1 ⟨hb1,rfl⟩;have hN1:=hN.below hb1 hN.lt;have n1:=hN1.lt;have a0:=hN1.cell 0;have a1:=hN1.cell 1;have a2:=hN1.cell 2;have a3:=hN1.cell 3;have a4:=hN1.cell 4;have b0:=hN1.free 0;have b1:=hN1.free 1;have b2:=hN1.free 2;have b3:=hN1.free 3;(have b4:=hN1.free 4)))
  exact uZ hP hc0 hN1 ((zl w _).trans (hb1.mono (by simp))) rfl rfl rfl rfl
 |ok ts =>
  have hs:vL x= .ok ts:=(ZL x ts).1 hS;obtain⟨hl5,hG⟩:=yy hs
  have hx2:x.length≤2000:=by
   unfold jN at hS
   split at hS
   ·cases hS
   ·omega
  have hPx:xh x=match vS 501 x.length ts with | .error e=> .error e| .ok (l,_)=> .ok (.mk y8 [] 0 0 l):=by simp only[xh,hs];rfl
  rw[hS]at hsc;generalize hen:x.length=en at *;clear hS hs hm hen;generalize xh x=PX at hPx ⊢;have FIN:Hid (PX=match vS 501 en ts with | .error e=> .error e| .ok (l,_)=> .ok (.mk y8 [] 0 0 l)):=hPx;clear hPx;go_enter Tryz.func5,Tryz.ntmps5
  go_wp2_with (first
   |((go_at_call 13)
     refine hsc.mono ?_;rintro e w1 ⟨hb1,v1,rfl,htr⟩
     (obtain⟨A,C,rfl⟩:∃A C,v1= .slice A ts.length C:=by
       rcases htr.2 with⟨rfl,h0⟩|⟨g,cap,cur,rfl,_⟩
       ·exact⟨none,0,by rw[h0]⟩
       ·exact⟨_,_,rfl⟩)
     have hN1:=hN.below hb1 hN.lt;have n1:=hN1.lt;(have hR:=Dr (en:=en) htr hl5 hx2)))
  have S1:KI w (w1.alloc (.cells #[.slice A ts.length C,.int .i64 0,.int .i64 (en:Nat),.int .i64 0,.int .i64 0] 49)) w1.heap.size A C ts en ((w1.alloc (.cells #[.slice A ts.length C,.int .i64 0,.int .i64 (en:Nat),.int .i64 0,.int .i64 0] 49)).alloc (.cells #[.string ⟨#[102,105,108,101]⟩,.string ⟨#[]⟩,.int .i64 0,.int .i64 0,.slice none 0 0] 24)) 0 0 [] (.slice none 0 0):=
   ⟨(jQ.refl hR).alloc _,(hN1.alloc _).alloc _,zm.new_at (by simp),xI.nil _ _,((zl w _).trans (hb1.mono (by simp))).alloc (by omega) _,n1,by simp⟩
  have HRR:Hid (∃k,zT (w1.alloc (.cells #[.slice A ts.length C,.int .i64 0,.int .i64 (en:Nat),.int .i64 0,.int .i64 0] 49)) w1.heap.size A C ts 0 en 0 k):=⟨0,hR⟩
  generalize w1.alloc (.cells #[.slice A ts.length C,.int .i64 0,.int .i64 (en:Nat),.int .i64 0,.int .i64 0] 49)=W0 at S1 HRR ⊢;generalize w1.heap.size=rb at S1 HRR n1 ⊢;clear hR hb1 hN1 htr hsc;have hlt:=S1.lt;have hw0:=S1.hw
  go_loopw [10] (λ_ wr=>∃(i:Nat) (b:Int) (l:List Nd) (A':Option Addr) (L C':Nat),KI w W0 rb A C ts en wr i b l (.slice A' L C')∧Hid (Jn en ts l i b)∧l.length≤500+1∧(b=0→l.length≤i)∧l.length=L) (λ_ wz=>zaB rb wz)
  case atStart=>exact⟨0,0,[],none,0,0,S1,Jn.start _ _,by simp,λ_=>Nat.le_refl _,rfl⟩
  case round =>
   obtain⟨i,b,l,A',L,C',S2,HK,hl1,hl2,rfl⟩:=hrel;obtain⟨k0,hR0⟩:=HRR.out;obtain⟨k2,h2⟩:=jQ.at hR0 S2.st;have c1:=h2.has.cell 1;have c3:=h2.has.cell 3;have c4:=h2.has.cell 4;simp only[qH,qG,qI]at c1 c3 c4;have lr:=h2.has.lt;have le:=h2.le;have lq:=S2.hq.lt;have lp:=S2.hp.lt;have a0:=S2.hp.cell 0;have a1:=S2.hp.cell 1;have a2:=S2.hp.cell 2;have a3:=S2.hp.cell 3;have a4:=S2.hp.cell 4;have b0:=S2.hp.free 0;have b1:=S2.hp.free 1;have b2:=S2.hp.free 2;have b3:=S2.hp.free 3;have b4:=S2.hp.free 4;have d0:=S2.hq.cell 0;have d1:=S2.hq.cell 1;have d2:=S2.hq.cell 2;have d3:=S2.hq.cell 3;have d4:=S2.hq.cell 4;by_cases hb:b=0
   ·subst hb
    have hl3:=hl2 rfl;by_cases hi:i<ts.length
    ·have hst:=zbh h2 hG
     have hfar:=S2.far;have HFA:Hid (zaB rb wr=502-i):=by rw[hfar];rfl
     have hii:(i:Int)<(ts.length:Int):=by omega
     clear hfar
     go_wp2_with (first
      |((go_at_call 14)
        refine hst.mono ?_;rintro e w5 ⟨i5,b5,x5,A5,C5,rfl,N5,s5,T5,l5⟩;have S5:=S2.rst s5;have S5a:=(S5.alloc (.cells #[.string (bs x5.op),.string (bs x5.s),.int .i64 x5.n,.int .i64 x5.a,.slice A5 x5.l.length C5] 24)).alloc (.cells #[.string (bs x5.op),.string (bs x5.s),.int .i64 x5.n,.int .i64 x5.a,.slice A5 x5.l.length C5] 24);have z5:=s5.2.2.1.size;have N5a:=(S2.row.apart N5 (by omega)).grow (((Below.refl _ w5).alloc (Nat.le_refl _) (.cells #[.string (bs x5.op),.string (bs x5.s),.int .i64 x5.n,.int .i64 x5.a,.slice A5 x5.l.length C5] 24)).alloc (by simp) (.cells #[.string (bs x5.op),.string (bs x5.s),.int .i64 x5.n,.int .i64 x5.a,.slice A5 x5.l.length C5] 24));have q5:=S5.hq.cell 4;have r5:=S5.hq.lt;have f5:=S5.hq.free 4;(simp only[qD]))
      |((refine zi 48 rfl ?_)
        refine zY rfl _ _ rfl (rb+2) l _ rfl S5a.row (by simp;omega) (by omega) [x5] [.slice A5 x5.l.length C5] (by simp) (by simp) rfl (JU _ _ _) (FS N5a) (w5.heap.size+1) rfl (zm.new_at (by simp)) (l.length+1) rfl ?_;intro A6 C6 w6 R6 B6;have S6:=S5a.put R6 B6;have u6:=(S5a.hq.below B6 (by omega)).cell 4;have v6:=(S5a.hq.below B6 (by omega)).free 4;(have y6:=(S5a.hq.below B6 (by omega)).lt)))
     go_roundw
     case rel =>
      have hle:b5=0→i+1≤i5:=by
       intro e;have:=Xe (T5.was e).2;simp only[List.length_drop]at this;omega
      refine⟨i5,b5,l++ [x5],A6,l.length+1,C6,S6,HK.out.next hi T5 hle,?_,?_,by simp⟩
      ·simp;omega
      ·intro e;have:=hle e;simp;omega
     case measure =>
      rw[S6.far,HFA.out]
      split
      ·rename_i e
       have:=Xe (T5.was e).2;simp only[List.length_drop]at this;omega
      ·omega
    ·have hii:¬(i:Int)<(ts.length:Int):=by omega
     have HT:Hid (vS 501 en ts= .ok (l,ts.drop i)):=by
      rcases HK.out.stop (.inr hi)with h|h
      ·exact(h.was rfl).2
      ·omega
     clear HK
     go_wp2
     refine JN rfl rfl rfl rfl (S2.hp.set5 _ _ _ _ _) rfl ?_;have eP:PX= .ok (.mk y8 [] 0 0 l):=by rw[FIN.out,HT.out]
     rw[eP];refine⟨zb2 S2.all _ _ _ _ _,A',C',rfl,?_⟩;exact(S2.row.done.mono λg hg=>(by omega:w.heap.size≤g∧g≠w.heap.size)).set5 (λg hg=>hg.2) _ _ _ _ _ |>.mono λg hg=>hg.1
   ·have hd1:(b==0)=false:=by simpa using hb
    have hd2:(b != 0)=true:=by rw[bne,hd1];rfl
    have hd3:decide (b=0)=false:=decide_eq_false hb
    have HT:Hid (∃e,vS 501 en ts= .error e):=by
     rcases HK.out.stop (.inl hb)with h|h
     ·unfold qF at h
      rw[if_pos rfl]at h;cases hp:vS 501 en ts with
      |error e=>exact⟨e,rfl⟩
      |ok r=>rw[hp]at h;exact absurd h.2.2 hb
     ·omega
    obtain⟨er,hE⟩:=HT.out;have eP:PX= .error er:=by rw[FIN.out,hE]
    have HP:Hid (PX= .error er):=eP;clear HK HT hE eP FIN;by_cases hi:i<ts.length
    ·have hii:(i:Int)<(ts.length:Int):=by omega
     go_wp2
     go_region
     go_wp2
     exact Va HP.out hb S2.hp S2.all rfl rfl rfl rfl
    ·have hii:¬(i:Int)<(ts.length:Int):=by omega
     go_wp2
     go_region
     go_wp2
     exact Va HP.out hb S2.hp S2.all rfl rfl rfl rfl
end
section
open Go.ChangeShapes Go.WideShapes Go.ChangeAt Go.RowKit Go.MapKept
variable {E:Nat→Prop}
structure vZ (F:Nat→Prop) (w w':World):Prop where
 os:w'.os=w.os
 tape:w'.tape=w.tape
 output:w'.output=w.output
 size:w.heap.size≤w'.heap.size
 block:∀k,k<w.heap.size→¬F k→w'.heap[k]?=w.heap[k]?
theorem vZ.refl(F:Nat→Prop)(w:World):vZ F w w:=⟨rfl,rfl,rfl,Nat.le_refl _,λ_ _ _=>rfl⟩
theorem vZ.of{F:Nat→Prop}{w w':World}(h:Below w.heap.size w w'):vZ F w w':=⟨h.os,h.tape,h.output,h.size,λk hk _=>h.block k hk⟩
theorem vZ.trans{F:Nat→Prop}{a b c:World}(h:vZ F a b)(k:vZ F b c):vZ F a c:=⟨k.os.trans h.os,k.tape.trans h.tape,k.output.trans h.output,Nat.le_trans h.size k.size,λi hi hn=>(k.block i (Nat.lt_of_lt_of_le hi h.size) hn).trans (h.block i hi hn)⟩
theorem vZ.mono{F G:Nat→Prop}{w w':World}(h:vZ F w w')(hg:∀k,k<w.heap.size→F k→G k):vZ G w w':=⟨h.os,h.tape,h.output,h.size,λk hk hn=>h.block k hk λhf=>hn (hg k hk hf)⟩
theorem vZ.below{F:Nat→Prop}{w w':World}{B:Nat}(h:vZ F w w')(hB:B≤w.heap.size)(hF:∀k,F k→B≤k):Below B w w':=⟨h.os,h.tape,h.output,h.size,λk hk=>h.block k (by omega) λhf=>by have:=hF k hf;omega⟩
theorem vZ.drewN{F:Nat→Prop}{w w':World}(h:vZ F w w')(n:Nat):vZ F w (w'.drewN n):=⟨h.os,h.tape,h.output,h.size,h.block⟩
theorem vZ.drew{F:Nat→Prop}{w w':World}(h:vZ F w w'):vZ F w w'.drew:=⟨h.os,h.tape,h.output,h.size,h.block⟩
theorem vZ.alloc{F:Nat→Prop}{w w':World}(h:vZ F w w')(o:Obj):vZ F w (w'.alloc o):=h.trans (.of (zl w' o))
theorem vZ.set{F:Nat→Prop}{w w':World}(h:vZ F w w'){q:Addr}(hq:F q.block∨w.heap.size≤q.block)(v:Value):vZ F w (w'.setCell q v):=
 ⟨h.os,h.tape,h.output,by simpa using h.size,λk hk hn=>(Below.heap_setCell w' q v k (by rintro rfl;rcases hq with hq|hq;exact hn hq;omega)).trans (h.block k hk hn)⟩
theorem vZ.left{F:Nat→Prop}{w w':World}{o:Obj}(h:vZ F (w.alloc o) w'):vZ F w w':=(vZ.of (zl w o)).trans h
theorem zm.onl{F:Nat→Prop}{w w':World}{g t:Nat}{cs:Array Value}(h:zm w g t cs)(hk:vZ F w w')(hn:¬F g):zm w' g t cs:=(hk.block _ h.lt hn).trans h
structure CV where
 vd:Value
 vp:Value
 vb:Value
 mb:Nat
def CV.own(V:CV)(cb:Nat)(k:Nat):Prop:=k=cb∨V.vd.ownBlock=some k∨V.vp.ownBlock=some k∨V.vb.ownBlock=some k∨k=V.mb
structure jX (cb:Nat) (V:CV) (w:World) (V':CV) (w':World):Prop where
 only :vZ (V.own cb) w w'
 new:∀k,V'.own cb k→V.own cb k∨w.heap.size≤k
theorem jX.refl(cb:Nat)(V:CV)(w:World):jX cb V w V w:=⟨.refl _ _,λ_ h=> .inl h⟩
theorem jX.trans{cb:Nat}{V V1 V2:CV}{w w1 w2:World}(h:jX cb V w V1 w1)(k:jX cb V1 w1 V2 w2):jX cb V w V2 w2:=by
 refine⟨⟨k.only.os.trans h.only.os,k.only.tape.trans h.only.tape,k.only.output.trans h.only.output,Nat.le_trans h.only.size k.only.size,λi hi hn=>?_⟩,λi hi=>?_⟩
 ·refine(k.only.block i (Nat.lt_of_lt_of_le hi h.only.size) (λe=>?_)).trans (h.only.block i hi hn)
  rcases h.new i e with e'|e'
  ·exact hn e'
  ·omega
 ·rcases k.new i hi with e|e
  ·exact h.new i e
  ·exact .inr (Nat.le_trans h.only.size e)
def ZS(w:World)(P:Nat→Prop)(A:Option Addr)(l:List Nat):Prop:=l= []∨∃b off,A=some ⟨b,off,none⟩∧b<w.heap.size∧P b∧∀j (h:j<l.length),w.cell? ⟨b,off+j,none⟩=some (.int .i64 (l[j]:Nat))
def jK(w:World)(P:Nat→Prop)(A:Option Addr)(l:List UInt8):Prop:=l= []∨∃b off,A=some ⟨b,off,none⟩∧b<w.heap.size∧P b∧∀j (h:j<l.length),w.cell? ⟨b,off+j,none⟩=some (.int .u8 (l[j].toNat:Nat))
theorem ZS.keep{w w':World}{P Q:Nat→Prop}{A:Option Addr}{l:List Nat}(h:ZS w P A l)(hs:w.heap.size≤w'.heap.size)(hk:∀k,k<w.heap.size→P k→w'.heap[k]?=w.heap[k]?∧Q k):ZS w' Q A l:=by
 rcases h with h|⟨b,off,e,hb,hp,hc⟩
 ·exact .inl h
 ·obtain⟨h1,h2⟩:=hk b hb hp
  exact .inr ⟨b,off,e,Nat.lt_of_lt_of_le hb hs,h2,λj hj=>(World.cell?_of_block h1).trans (hc j hj)⟩
theorem jK.keep{w w':World}{P Q:Nat→Prop}{A:Option Addr}{l:List UInt8}(h:jK w P A l)(hs:w.heap.size≤w'.heap.size)(hk:∀k,k<w.heap.size→P k→w'.heap[k]?=w.heap[k]?∧Q k):jK w' Q A l:=by
 rcases h with h|⟨b,off,e,hb,hp,hc⟩
 ·exact .inl h
 ·obtain⟨h1,h2⟩:=hk b hb hp
  exact .inr ⟨b,off,e,Nat.lt_of_lt_of_le hb hs,h2,λj hj=>(World.cell?_of_block h1).trans (hc j hj)⟩
def Q9(p:Pt)(u:Value×Value×Value):Array Value:=#[.int .i64 (p.kind:Nat),.int .i64 (p.size:Nat),u.1,.int .i64 (p.dev:Nat),.int .i64 (p.first:Nat),.int .i64 (p.chunk:Nat),u.2.1,u.2.2]
def gv(l:List Pt)(us:List (Value×Value×Value)):List Value:=(l.zip us).flatMap λx=>(Q9 x.1 x.2).toList
structure xH (w:World) (P:Nat→Prop) (p:Pt) (u:Value×Value×Value):Prop where
 kids:∃A C,u.1= .slice A p.kids.length C∧p.kids.length≤C∧C≤maxLen∧ZS w P A p.kids
 key:∃A C,u.2.1= .slice A p.key.length C∧p.key.length≤C∧C≤maxLen∧jK w P A p.key
 root:∃A C,u.2.2= .slice A p.root.length C∧p.root.length≤C∧C≤maxLen∧jK w P A p.root
theorem xH.keep{w w':World}{P Q:Nat→Prop}{p:Pt}{u:Value×Value×Value}(h:xH w P p u)(hs:w.heap.size≤w'.heap.size)(hk:∀k,k<w.heap.size→P k→w'.heap[k]?=w.heap[k]?∧Q k):xH w' Q p u:=by
 obtain⟨⟨A1,C1,e1,a1,b1,i1⟩,⟨A2,C2,e2,a2,b2,i2⟩,⟨A3,C3,e3,a3,b3,i3⟩⟩:=h;exact⟨⟨A1,C1,e1,a1,b1,i1.keep hs hk⟩,⟨A2,C2,e2,a2,b2,i2.keep hs hk⟩,⟨A3,C3,e3,a3,b3,i3.keep hs hk⟩⟩
def Uc(m:Mn)(u:Value):Value:= .agg #[.string (bs m.word),.int .i64 (m.node:Nat),u]
def j5(ns:vJ)(us:List Value):List MapEntry:=(ns.zip us).mapIdx λi x=> { key:= .string (bs x.1.1),val:=Uc x.1.2 x.2,born:=i }
structure Ka (w:World) (P:Nat→Prop) (m:Mn) (u:Value):Prop where
 bytes:∃A C,u= .slice A m.bytes.length C∧m.bytes.length≤C∧C≤maxLen∧jK w P A m.bytes
theorem Ka.keep{w w':World}{P Q:Nat→Prop}{m:Mn}{u:Value}(h:Ka w P m u)(hs:w.heap.size≤w'.heap.size)(hk:∀k,k<w.heap.size→P k→w'.heap[k]?=w.heap[k]?∧Q k):Ka w' Q m u:=by
 obtain⟨A,C,e,a,b,i⟩:=h;exact⟨A,C,e,a,b,i.keep hs hk⟩
def jI(o:Option Nat):Int:=match o with
 |none=> -1
 |some n=>(n:Nat)
structure qq (E:Nat→Prop) (w:World) (cb:Nat) (V:CV) (c:Ck):Prop where
 has:zm w cb 56 #[V.vd,.int .i64 (jI c.jour),V.vp,.int .i64 (jI c.expo),.bool c.ro,.map (some V.mb),V.vb,.int .i64 c.eat]
 devs:w.ownsRow cb 3 1 V.vd c.devs.length (c.devs.map λd=> .int .i64 (d:Nat))
 only :w.ownsRow cb 4 1 V.vb c.parts.length ((zR c.parts).map .bool)
 prts:∃us,us.length=c.parts.length∧w.ownsRow cb 65 8 V.vp c.parts.length (gv c.parts us)∧∀i (h:i<c.parts.length) (h':i<us.length),xH w (λg=>¬V.own cb g∧E g) c.parts[i] us[i]
 nms:∃us,us.length=c.names.length∧w.heap[V.mb]?=some (.map (j5 c.names us).toArray c.names.length)∧∀i (h:i<c.names.length) (h':i<us.length),Ka w (λg=>¬V.own cb g∧E g) c.names[i].2 us[i]
 uniq:c.names.Pairwise (λx y=>x.1≠y.1)
 mlt:cb≤V.mb+1
 few:c.parts.length≤100000∧c.names.length≤100000∧c.devs.length≤100000
theorem qq.low{w:World}{cb:Nat}{V:CV}{c:Ck}(h:qq E w cb V c){k:Nat}(hk:V.own cb k):cb≤k+1∧k<w.heap.size:=by
 rcases hk with rfl|e|e|e|rfl
 ·exact⟨Nat.le_succ _,h.has.lt⟩
 ·exact⟨Nat.le_succ_of_le (qR h.devs e).2,(qR h.devs e).1⟩
 ·obtain⟨us,_,hr,_⟩:=h.prts
  exact⟨Nat.le_succ_of_le (qR hr e).2,(qR hr e).1⟩
 ·exact⟨Nat.le_succ_of_le (qR h.only e).2,(qR h.only e).1⟩
 ·obtain⟨us,_,hm,_⟩:=h.nms
  exact⟨h.mlt,(Array.getElem?_eq_some_iff.1 hm).1⟩
theorem qq.keep{w w':World}{cb:Nat}{V:CV}{c:Ck}(h:qq E w cb V c)(hb:Below w.heap.size w w'):qq E w' cb V c:=by
 have hk:∀k,k<w.heap.size→(¬V.own cb k∧E k)→w'.heap[k]?=w.heap[k]?∧(¬V.own cb k∧E k):=λk hk hn=>⟨hb.block k hk,hn⟩
 have hr:∀ {e size n:Nat} {v:Value} {xs:List Value},w.ownsRow cb e size v n xs→w'.ownsRow cb e size v n xs:=λhh=>zI hh (λg o e ho=>(hb.block g (Array.getElem?_eq_some_iff.1 ho).1).trans ho)
 obtain⟨us,e1,r1,i1⟩:=h.prts;obtain⟨ms,e2,r2,i2⟩:=h.nms;exact⟨h.has.below hb h.has.lt,hr h.devs,hr h.only,⟨us,e1,hr r1,λi a b=>(i1 i a b).keep hb.size hk⟩,⟨ms,e2,(hb.block _ (Array.getElem?_eq_some_iff.1 r2).1).trans r2,λi a b=>(i2 i a b).keep hb.size hk⟩,h.uniq,h.mlt,h.few⟩
theorem qq.drewN{w:World}{cb:Nat}{V:CV}{c:Ck}(h:qq E w cb V c)(n:Nat):qq E (w.drewN n) cb V c:=h.keep (j7 (Below.refl _ _) n)
theorem qq.alloc{w:World}{cb:Nat}{V:CV}{c:Ck}(h:qq E w cb V c)(o:Obj):qq E (w.alloc o) cb V c:=h.keep (zl w o)
theorem qq.mono{E':Nat→Prop}{w:World}{cb:Nat}{V:CV}{c:Ck}(h:qq E w cb V c)(hE:∀k,k<w.heap.size→¬V.own cb k→E k→E' k):qq E' w cb V c:=by
 obtain⟨us,e1,r1,i1⟩:=h.prts;obtain⟨ms,e2,r2,i2⟩:=h.nms;have hk:∀k,k<w.heap.size→(¬V.own cb k∧E k)→w.heap[k]?=w.heap[k]?∧(¬V.own cb k∧E' k):=λk hk hn=>⟨rfl,hn.1,hE k hk hn.1 hn.2⟩
 exact⟨h.has,h.devs,h.only,⟨us,e1,r1,λi a b=>(i1 i a b).keep (Nat.le_refl _) hk⟩,⟨ms,e2,r2,λi a b=>(i2 i a b).keep (Nat.le_refl _) hk⟩,h.uniq,h.mlt,h.few⟩
def XT(c k:Int):List PanicEntry:= [{ v:= .iface 90 (.agg #[.int .i64 c,.int .i64 k]),recovered:=false }]
end
section
open Go.ChangeShapes Go.WideShapes Go.ChangeAt Go.RowKit Go.MapKept
theorem zb5{a b:List UInt8}(h:bs a=bs b):a=b:=by
 have:=congrArg (λx:ByteArray=>x.toList) h
 simpa [zp]using this
theorem Jw{ns:vJ}{us:List Value}(h:us.length=ns.length)(i:Nat)(hi:i<ns.length):(j5 ns us)[i]?=some { key:= .string (bs ns[i].1),val:=Uc ns[i].2 (us[i]'(by omega)),born:=i }:=by
 unfold j5;rw[List.getElem?_mapIdx];have hz:i<(ns.zip us).length:=by simp[h,hi]
 rw[List.getElem?_eq_getElem hz];simp
theorem Jq{ns:vJ}{us:List Value}(h:us.length=ns.length):(j5 ns us).length=ns.length:=by
 unfold j5;simp[h]
theorem VY{ns:vJ}{us:List Value}(h:us.length=ns.length){x:MapEntry}(hx:x ∈ j5 ns us):∃i,∃hi:i<ns.length,x= { key:= .string (bs ns[i].1),val:=Uc ns[i].2 (us[i]'(by omega)),born:=i }:=by
 obtain⟨i,hi,e⟩:=List.mem_iff_getElem.1 hx;rw[Jq h]at hi;refine⟨i,hi,?_⟩;have:=Jw h i hi;rw[List.getElem?_eq_getElem (by rw[Jq h];exact hi)]at this;rw[←e];exact Option.some.inj this
theorem fD{ns:vJ}{us:List Value}(h:us.length=ns.length)(s:List UInt8)(m:Mn)(u:Value):(j5 ns us).toArray.push { key:= .string (bs s),val:=Uc m u,born:=ns.length }=(j5 (ns++ [(s,m)]) (us++ [u])).toArray:=by
 apply Array.toList_inj.1;simp only[Array.toList_push];unfold j5;rw[List.zip_append (by omega),List.mapIdx_append];simp[h]
theorem kf{ns:vJ}{s:List UInt8}:(lk ns s=none∧∀i (hi:i<ns.length),ns[i].1≠s)∨∃i,∃hi:i<ns.length,ns[i].1=s∧lk ns s=some ns[i].2∧∀j (hj:j<i),(ns[j]'(by omega)).1≠s:=by
 unfold lk;cases hf:ns.find? (λx=>x.1==s)with
 |none =>
  refine .inl ⟨rfl,λi hi e=>?_⟩;have:=List.find?_eq_none.1 hf ns[i] (List.getElem_mem hi);simp[e]at this
 |some x =>
  obtain⟨h1,i,hi,rfl,h2⟩:=List.find?_eq_some_iff_getElem.1 hf;refine .inr ⟨i,hi,by simpa using h1,rfl,λj hj e=>?_⟩;have:=h2 j hj;simp[e]at this
def DE:Value:= .agg #[.string ⟨#[]⟩,.int .i64 0,.slice none 0 0]
theorem za0{ns:vJ}(hu:ns.Pairwise (λx y=>x.1≠y.1)){i j:Nat}(hi:i<ns.length)(hj:j<ns.length)(e:ns[i].1=ns[j].1):i=j:=by
 rcases Nat.lt_trichotomy i j with h|h|h
 ·exact absurd e (List.pairwise_iff_getElem.1 hu i j hi hj h)
 ·exact h
 ·exact absurd e.symm (List.pairwise_iff_getElem.1 hu j i hj hi h)
theorem zcQ{ns:vJ}(hu:ns.Pairwise (λx y=>x.1≠y.1)){i:Nat}(hi:i<ns.length):lk ns ns[i].1=some ns[i].2:=by
 rcases kf (ns:=ns) (s:=ns[i].1)with⟨_,h⟩|⟨j,hj,e,h,_⟩
 ·exact absurd rfl (h i hi)
 ·have:=za0 hu hj hi e
  subst this;exact h
theorem YM{ns:vJ}{us:List Value}(h:us.length=ns.length)(hu:ns.Pairwise (λx y=>x.1≠y.1))(s:List UInt8):
 (Instr.findNow .string (.string (bs s)) (j5 ns us) 0=some none∧lk ns s=none)∨∃i,∃hi:i<ns.length,Instr.findNow .string (.string (bs s)) (j5 ns us) 0=some (some (i,Uc ns[i].2 (us[i]'(by omega))))∧lk ns s=some ns[i].2∧ns[i].1=s:=by
 have hks:∀x ∈ j5 ns us,IsKey .string x.key:=λx hx=>by obtain⟨i,hi,rfl⟩:=VY h hx;trivial
 rcases findNow_spec (d:= .string) (k:= .string (bs s)) trivial (j5 ns us) 0 hks with⟨g1,g2⟩|⟨j,e,g1,g2,g3⟩
 ·refine .inl ⟨g1,?_⟩
  rcases kf (ns:=ns) (s:=s)with⟨q,_⟩|⟨i,hi,q,_,_⟩
  ·exact q
  ·have:=g2 _ (List.mem_of_getElem? (Jw h i hi))
   exact absurd (by rw[q]) this
 ·have hj:j<ns.length:=by
   have:=(List.getElem?_eq_some_iff.1 g2).1;rw[Jq h]at this;exact this
  rw[Jw h j hj]at g2;cases g2
  have hs:ns[j].1=s:=by
   injection g3 with g3
   exact zb5 g3
  refine .inr ⟨j,hj,by simpa using g1,?_,hs⟩;rw[←hs];exact zcQ hu hj
def lkV(ns:vJ)(us:List Value)(s:List UInt8):Value:=match(ns.zip us).find? (λx=>x.1.1==s)with
 |none=>DE
 |some x=>Uc x.1.2 x.2
theorem ue{ns:vJ}{us:List Value}(h:us.length=ns.length)(hu:ns.Pairwise (λx y=>x.1≠y.1)){i:Nat}(hi:i<ns.length):lkV ns us ns[i].1=Uc ns[i].2 (us[i]'(by omega)):=by
 unfold lkV;have hz:i<(ns.zip us).length:=by simp[h,hi]
 have :(ns.zip us).find? (λx=>x.1.1==ns[i].1)=some (ns.zip us)[i]:=by
  rw[List.find?_eq_some_iff_getElem];refine⟨by simp,i,hz,rfl,λj hj=>?_⟩;simp only[List.getElem_zip];have:=List.pairwise_iff_getElem.1 hu j i (by omega) hi hj
  simpa using this
 rw[this];simp
theorem Ja{ns:vJ}{us:List Value}{s:List UInt8}(h:lk ns s=none):lkV ns us s=DE:=by
 unfold lkV
 have :(ns.zip us).find? (λx=>x.1.1==s)=none:=by
  rw[List.find?_eq_none];intro x hx;rcases kf (ns:=ns) (s:=s)with⟨_,q⟩|⟨i,hi,_,q,_⟩
  ·obtain⟨i,hi,rfl⟩:=List.mem_iff_getElem.1 hx
   simp only[List.getElem_zip];have:=q i (by simp at hi;omega)
   simpa using this
  ·rw[h]at q;cases q
 rw[this]
theorem ZC{o:Oper}{a:Act}(x y:Operand)(ho:o.op= .lookup 53 x y true){w:World}{mb:Nat}{ns:vJ}{us:List Value}{k:Nat}(hb:w.heap[mb]?=some (.map (j5 ns us).toArray k))(h:us.length=ns.length)(hu:ns.Pairwise (λx y=>x.1≠y.1))(s:List UInt8)(hx:a.eval x= .map (some mb))(hy:a.eval y= .string (bs s)):(execOp a.eval o).run Tryz.prog w= .ok (.value (.tuple #[lkV ns us s,.bool (lk ns s).isSome])) w:=by
 have hk:IsKey .string (.string (bs s)):=trivial;unfold execOp;simp only[ho,hx,hy];rcases YM h hu s with⟨g1,g2⟩|⟨i,hi,g1,g2,g3⟩
 ·have hr:=MapKept.run_findKey (P:=Tryz.prog) (w:=w) Tryz.underlying9 g1
  rw[Ja g2];simp[Instr.lookup,run_underlying Tryz.underlying53,MapKept.run_getObj_map hb,MapKept.run_checkKey Tryz.underlying9 hk,hr,Result.andThen,g2,go_sem];rfl
 ·have hr:=MapKept.run_findKey (P:=Tryz.prog) (w:=w) Tryz.underlying9 g1
  have:=ue h hu hi;rw[g3]at this;rw[this];simp[Instr.lookup,run_underlying Tryz.underlying53,MapKept.run_getObj_map hb,MapKept.run_checkKey Tryz.underlying9 hk,hr,Result.andThen,g2,go_sem]
theorem jn{P:Program}{ops:Array Oper}{Q:Exit→Act→World→Prop}{md:Region.Mode}{S:World→Prop}{oi:Oper}(i:Nat)(d:Option Tmp)(f:FuncId)(args:Array Value){fuel:Nat}{listed:Array Bool}{a:Act}{w:World}{Post:Ending→World→Prop}
 (hr:Region.ready md ops listed= [i]) (hi:ops[i]?=some oi) (hd:oi.dst=d) (hw:Region.wanted oi (yielded ops a.tmps)=true)
 (hrun:(execOp a.eval oi).run P w= .ok (.enter f args) w) (hc:Calls P f args w Post)
 (h:∀e w',Post e w'→(∃v,e= .returned v∧S w'∧wpAnyH P md ops Q S fuel (listed.setIfInBounds i true) (a.put d v) w')∨∃c,e= .panicked c∧Q (.panic c) a w'):wpAnyH P md ops Q S (fuel+1) listed a w:=by
 subst hd;refine wpAnyH_ready hr (by simp) (AllReadyH.cons hi (λK hK=>?_) AllReadyH.nil);rw[if_pos hw];unfold Oper.wp;rw[hrun,Oper.upon_enter];refine hc.mono λe w' hh=>?_
 rcases h e w' hh with⟨v,rfl,hS,hrest⟩|⟨c,rfl,hq⟩
 ·exact hK.out _ _ hS (λ_=>hrest)
 ·exact hq
theorem qL(c k:Int)(w:World):Calls Tryz.prog 62 #[.bool true,.int .i64 c,.int .i64 k] w λe w'=>e= .returned (.tuple #[])∧w'=w:=by
 go_enter Tryz.func62,Tryz.ntmps62
 go_wp2
 go_end0
 exact⟨rfl,rfl⟩
theorem jA(c k:Int)(w:World):Calls Tryz.prog 62 #[.bool false,.int .i64 c,.int .i64 k] w λe w'=>e= .panicked (XT c k)∧w'=w:=by
 go_enter Tryz.func62,Tryz.ntmps62
 go_wp2
 exact⟨rfl,rfl,rfl⟩
end
end Go.Proofs.YteaddcdpgcgggaaGreatDoor
