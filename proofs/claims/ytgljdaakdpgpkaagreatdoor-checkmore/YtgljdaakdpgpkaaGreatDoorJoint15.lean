import Derived.Test.YtgljdaakdpgpkaaGreatDoorJoint13
import Derived.Test.YtgljdaakdpgpkaaGreatDoorJoint14
import Derived.Test.YtgljdaakdpgpkaaGreatDoorJoint12
import Derived.Deep.Slices
import Derived.Deep.Grids
import Derived.Lib.SmallJoins
namespace Go.Proofs.YtgljdaakdpgpkaaGreatDoor
set_option linter.unusedVariables false
set_option maxRecDepth 100000
set_option maxHeartbeats 40000000
section
open Go.ChangeShapes Go.WideShapes Go.ChangeAt Go.RowKit Go.MapKept
theorem fp(x:List UInt8)(z:Int)(w:World)(hx:x.length≤maxLen){s:Qe}(hC:qS (PT x)= .ok s)(h8:s.devs.length<8)(Z:Nat)(hz:z<0)(hZ:(Z:Int)= -(z+1))(hZ2:(Z:Int)≤9223372036854775807):Calls Tryz.prog 5 #[.string (bs x),.int .i64 z] w λe w'=>e= .returned (.bool true)∧Below w.heap.size w w':=by
 have hpa:=K2 x w hx;have hlen:=ZC x;have HLEN:=zk (Gm x);have lim:=vt x;have hsw:=Yt (vt x) hC;have HCK:=zk (λW A C (h:j0 W (PT x) A C)=>by have:=yq (PT x) A C W h (vt x);rw[hC]at this;exact this);have HMO:=zk (λ(j:Nat) (hj:j<16) (N:Nat) (hN:1≤N∧N≤2048) (hnm:∀y ∈ (PT x).l,y.s≠xG j)=>ZF (vt x) hC h8 hj hN hnm);have HLM:=zk (λ(j N:Nat)=>JX (vt x) (ZC x) (xG j) N)
 obtain⟨n,hn⟩:∃n,n=PT x:=⟨_,rfl⟩
 rw[←hn]at hpa HCK HMO HLM HLEN hlen lim
 obtain⟨L,hL⟩:∃L,L=n.l.length:=⟨_,rfl⟩
 have HL:=zk hL;rw[←hL]at hpa HCK hlen
 obtain⟨DL,hDL⟩:∃DL,DL=s.devs.length:=⟨_,rfl⟩
 have HDL:=zk hDL
 obtain⟨NP,hNP⟩:∃NP,NP=s.parts.length:=⟨_,rfl⟩
 have HNP:=zk hNP
 obtain⟨J,hJ⟩:∃J,J=s.jour:=⟨_,rfl⟩
 obtain⟨X,hXe⟩:∃X,X=s.expo:=⟨_,rfl⟩
 obtain⟨ro,hro⟩:∃ro,ro=s.ro:=⟨_,rfl⟩
 have HJ:=zk hJ;have HX:=zk hXe;have HRO:=zk hro;have hXn:X<NP:=by rw[hXe,hNP];exact hsw.expo.1
 have h8':DL<8:=by rw[hDL];exact h8
 have hNP72:NP≤72:=by rw[hNP];exact hsw.few
 have y1:decide (8≤DL)=false:=decide_eq_false (by omega);have y2:decide ((8:Int)≤((DL:Nat):Int))=false:=decide_eq_false (by omega);have hNP0:0<s.parts.length:=by have:=hsw.expo.1;omega
 have HSW:=zk hsw;clear hn hC hsw hL hDL hNP hJ hXe hro;have hzb:(-9223372036854775808:Int)≤z:=by omega
 have HZ:=zk hZ;clear hZ;have HZ2:=zk hZ2;clear hZ2;unfold qa at hpa HCK;go_enter Tryz.func5,Tryz.ntmps5
 go_wp2_with (first
  |((go_at_call 6)
    refine hpa.mono ?_;rintro e w1 ⟨A,C,c,k,rfl,hr1,hb1,-⟩;have hck:=HCK.out _ A C (hr1.grow (zh w1 (.cells #[.string (bs n.op),.string (bs n.s),.int .i64 n.n,.int .i64 n.a,.slice A L C] 24)));(have hN1:=zi.new w1 24 #[.string (bs n.op),.string (bs n.s),.int .i64 n.n,.int .i64 n.a,.slice A L C]))
  |((go_at_call 8)
    refine hck.mono ?_;rintro e w2 ⟨hb2,vd,vp,rfl,hst⟩;obtain⟨Ad,Cd,rfl⟩:=yF hst.devs;obtain⟨ga,oa,Cp,rfl,hCp1,hCp2,hga,-,hPa⟩:=hst.pts hNP0;rw[←HDL.out,←HNP.out]at hst;rw[←HDL.out,←HNP.out,←HJ.out,←HX.out,←HRO.out];have hS:=zi.new w2 32 #[.slice Ad DL Cd,.int .i64 (J:Nat),.slice (some ⟨ga,oa,none⟩) NP Cp,.int .i64 (X:Nat),.bool ro];have s0:=hS.cell 0;have s1:=hS.cell 1;have s2:=hS.cell 2;have s3:=hS.cell 3;have s4:=hS.cell 4;simp only[qt,qu,qr]at s0 s1 s2 s3 s4;have sl:=hS.lt;(clear hck))
  |((refine zb 49 rfl ?_)
    (refine zc (some 49) (.int .i64 (Z:Nat)) rfl (by rfl) (uU _ rfl z Z rfl HZ.out HZ2.out _) ?_)))
 have hb3:=zh w2 (.cells #[.slice Ad DL Cd,.int .i64 (J:Nat),.slice (some ⟨ga,oa,none⟩) NP Cp,.int .i64 (X:Nat),.bool ro] 32);have hN3:=(hN1.below hb2 hN1.lt).alloc (.cells #[.slice Ad DL Cd,.int .i64 (J:Nat),.slice (some ⟨ga,oa,none⟩) NP Cp,.int .i64 (X:Nat),.bool ro] 32)
 have hB3:Below w.heap.size w (w2.alloc (.cells #[.slice Ad DL Cd,.int .i64 (J:Nat),.slice (some ⟨ga,oa,none⟩) NP Cp,.int .i64 (X:Nat),.bool ro] 32)):=by
  have q1:=hb1.size;have q2:=hb2.size;simp at q2;exact(((hb1.alloc hb1.size _).trans (hb2.mono (by simp;omega))).alloc (by omega) _)
 have hrd:=((hr1.grow (zh w1 (.cells #[.string (bs n.op),.string (bs n.s),.int .i64 n.n,.int .i64 n.a,.slice A L C] 24))).grow hb2).grow hb3;have hPa3:=hPa.up hb3;have hga3:ga<(w2.alloc (.cells #[.slice Ad DL Cd,.int .i64 (J:Nat),.slice (some ⟨ga,oa,none⟩) NP Cp,.int .i64 (X:Nat),.bool ro] 32)).heap.size:=Nat.lt_of_lt_of_le hga hb3.size;have HNB:=zk (show w1.heap.size<w2.heap.size by have q:=hb2.size;simp at q;omega);have hsz3:(w2.alloc (.cells #[.slice Ad DL Cd,.int .i64 (J:Nat),.slice (some ⟨ga,oa,none⟩) NP Cp,.int .i64 (X:Nat),.bool ro] 32)).heap.size=w2.heap.size+1:=by simp
 have HSZ3:=zk hsz3;clear hsz3 hst hPa hga hCp1 hCp2 hr1 hpa HCK hN1 hb2 hb1 hb3 s0 s1 s2 s3 s4 sl;generalize w1.heap.size=nb at *;generalize w2.heap.size=sb at *;generalize w2.alloc (.cells #[.slice Ad DL Cd,.int .i64 (J:Nat),.slice (some ⟨ga,oa,none⟩) NP Cp,.int .i64 (X:Nat),.bool ro] 32)=W3 at *;have a0:=hN3.cell 0;have a1:=hN3.cell 1;have a2:=hN3.cell 2;have a3:=hN3.cell 3;have a4:=hN3.cell 4;have al:=hN3.lt;simp only[qt,qu,qr]at a0 a1 a2 a3 a4
 go_loop [11,12] (λz11 z12=>∃k:Nat,z12= .int .i64 (k:Nat)∧k≤16∧(z11= .string ⟨#[]⟩∨∃j,j<16∧z11= .string (bs (xG j))∧∀y ∈ n.l,y.s≠xG j)) (λ_ z12=>16-(intOf z12).toNat)
 case atStart=>exact⟨0,rfl,by omega,.inl rfl⟩
 case round =>
  obtain⟨k,rfl,hk,hnm⟩:=hrel;rcases hnm with rfl|⟨j,hj,rfl,hnm⟩
  ·by_cases hk16:k<16
   ·have hki:(k:Int)<16:=by omega
    go_wp2_with (first
     |((refine zb 61 rfl ?_)
       (refine zc (some 61) (.string (bs [UInt8.ofNat (97+k)])) rfl (by rfl) (ZN _ _ _ rfl k rfl rfl rfl hk16 _) ?_))
     |((refine zb 62 rfl ?_)
       (refine zc (some 62) (.string (bs [113,UInt8.ofNat (97+k)])) rfl (by rfl) (xe _ _ rfl [113] [UInt8.ofNat (97+k)] _ rfl rfl rfl (by simp) _) ?_))
     |((refine zb 63 rfl ?_)
       (refine zc (some 63) (.string (bs (xG k))) rfl (by rfl) (xe _ _ rfl [113,UInt8.ofNat (97+k)] [120] _ rfl rfl rfl (by simp) _) ?_)))
    go_loop [14,15] (λz14 z15=>∃(b:Bool) (i:Nat),z14= .bool b∧z15= .int .i64 (i:Nat)∧i≤L∧(b=false→∀y ∈ n.l.take i,y.s≠xG k)) (λ_ z15=>L-(intOf z15).toNat)
    case atStart=>exact⟨false,0,rfl,rfl,Nat.zero_le _,λ_ y hy=>by simp at hy⟩
    case round =>
     obtain⟨b,i,rfl,rfl,hi,hun⟩:=hrel;by_cases hil:i<L
     ·have hii:(i:Int)<(L:Int):=by omega
      have hil':i<n.l.length:=by rw[←HL.out];exact hil
      cases b with
      |true =>
       go_wp2
       go_round
       case rel=>exact⟨true,i+1,rfl,by go_num,by omega,λe=>by cases e⟩
       case measure=>simp[intOf];omega
      |false =>
       obtain⟨gn,on,u,eA,hgn,hcl,-,-,-⟩:=hrd.rd.get i (by rw[←HL.out];exact hil);have d1:=hcl 1 (by decide);simp only[qa,List.getElem?_toArray,List.getElem?_cons_zero,List.getElem?_cons_succ]at d1;subst eA
       obtain⟨B,hB⟩:∃B,B=(n.l[i].s==xG k):=⟨_,rfl⟩
       have HUN:=zk (show B=false→∀y ∈ n.l.take (i+1),y.s≠xG k from λe y hy=>by
        rw[List.take_succ_eq_append_getElem hil']at hy;rcases List.mem_append.1 hy with hy|hy
        ·exact hun rfl y hy
        ·rw[List.mem_singleton.1 hy]
         rw[hB]at e
         exact beq_eq_false_iff_ne.1 e)
       have HB:=zk hB;clear hcl hun hB;generalize n.l[i].s=sy at *
       go_wp2_with (first
        |((refine zb 76 rfl ?_)
          (refine zc (some 76) _ rfl (by rfl) (zK _ _ rfl gn on i L C rfl rfl hil _) ?_))
        |((refine zb 80 rfl ?_)
          (refine zc (some 80) (.bool B) rfl (by rfl) (qw _ _ rfl sy (xG k) rfl rfl B HB.out.symm _) ?_)))
       go_round
       case rel=>exact⟨B,i+1,rfl,by go_num,by omega,HUN.out⟩
       case measure=>simp[intOf];omega
     ·obtain rfl:L=i:=by omega
      cases b with
      |true =>
       go_wp2
       go_round
       case rel=>exact⟨k+1,by go_num,by omega,.inl rfl⟩
       case measure=>simp[intOf];omega
      |false =>
       have hun':∀y ∈ n.l,y.s≠xG k:=λy hy=>hun rfl y (by rw[HL.out,List.take_length];exact hy)
       have HUN:=zk hun';clear hun hun'
       go_wp2
       go_round
       case rel=>exact⟨k+1,by go_num,by omega,.inr ⟨k,hk16,rfl,HUN.out⟩⟩
       case measure=>simp[intOf];omega
   ·have hki:¬(k:Int)<16:=by omega
    go_wp2_with (first
     |((go_at_call 11)
       refine(vj _).mono ?_;(rintro e w4 ⟨rfl,hb4⟩)))
    go_ret
    exact⟨rfl,hB3.trans (hb4.mono hB3.size)⟩
  ·obtain⟨N,hN⟩:∃N,N=1+Z % 2048:=⟨_,rfl⟩
   have hN12:1≤N∧N≤2048:=by omega
   obtain⟨hDv,hpos,hor⟩:=HMO.out j hj N hN12 hnm;have hlimM:=HLM.out j N;have hnl:((xG j)== [])=false:=rfl;have hnl2:(xG j).length≤1000:=by simp[xG]
   clear hnm;generalize xG j=nm at *;have HNN:=zk hN;clear hN;have HLIM:=zk hlimM;have HDV:=zk hDv;clear hlimM hDv HMO HLM lim
   obtain⟨D,hD⟩:∃D,D=yO n:=⟨_,rfl⟩
   have HD:=zk hD;clear hD;have hposL:0<L:=by rw[HL.out];exact hpos
   obtain⟨gn,on,us,eA,hgn,hus,hcells,hkids⟩:=hrd.rd.cells (by rw[←HL.out];exact hposL);subst eA;have HCE:=zk hcells;have HKI:=zk hkids;have HUS:=zk hus;clear hcells hkids hus hpos;by_cases hk16:k<16
   ·have hki:(k:Int)<16:=by omega
    as_aux_lemma =>
    have hN4:=hN3.alloc (.cells #[.string (bs n.op),.string (bs n.s),.int .i64 n.n,.int .i64 n.a,.slice (some ⟨gn,on,none⟩) L C] 24);have hM4:=zi.new W3 24 #[.string (bs n.op),.string (bs n.s),.int .i64 n.n,.int .i64 n.a,.slice (some ⟨gn,on,none⟩) L C];have hb4:=zh W3 (.cells #[.string (bs n.op),.string (bs n.s),.int .i64 n.n,.int .i64 n.a,.slice (some ⟨gn,on,none⟩) L C] 24)
    obtain⟨W4,hW4⟩:∃W4,W4=W3.alloc (.cells #[.string (bs n.op),.string (bs n.s),.int .i64 n.n,.int .i64 n.a,.slice (some ⟨gn,on,none⟩) L C] 24):=⟨_,rfl⟩
    have HW4:=zk hW4;have hsz4:W4.heap.size=W3.heap.size+1:=by rw[hW4];simp
    rw[←hW4]at hN4 hM4 hb4;have hR5:=ZB (W0:=W3) hb4;have hN5:=hN4.alloc (.cells #[] 24);have hM5:=hM4.alloc (.cells #[] 24);have b4:=hN5.cell 4;have bl:=hN5.lt;simp only[qt,qu,qr]at b4;have hb5:=hb4.trans ((zh W4 (.cells #[] 24)).mono hb4.size);obtain⟨A6,C6,W6,hr6,hR6,hb56⟩:=qI (ty:=22) hR5 (g:=gn) (off:=on) (C:=C) HUS.out (λi h h' j hj=>(World.cell?_of_block (hb5.block gn hgn)).trans (HCE.out i h h' j hj)) HKI.out (by simp) (by rw[←HL.out];omega);rw[←HL.out,List.length_nil,Nat.zero_add]at hr6;rw[List.nil_append,←HL.out,List.length_nil,Nat.zero_add]at hR6;have hM6:=(hM5.below hb56 (by omega)).alloc (.cells #[.string ⟨#[100,101,118,105,99,101]⟩,.string (bs nm),.int .i64 (N:Nat),.int .i64 0,.slice none 0 0] 24);have hN6:=(hN5.below hb56 (by have:=hN3.lt;omega)).alloc (.cells #[.string ⟨#[100,101,118,105,99,101]⟩,.string (bs nm),.int .i64 (N:Nat),.int .i64 0,.slice none 0 0] 24);have hR7:=hR6.below (zh W6 (.cells #[.string ⟨#[100,101,118,105,99,101]⟩,.string (bs nm),.int .i64 (N:Nat),.int .i64 0,.slice none 0 0] 24));have hW6:=zi.new W6 24 #[.string ⟨#[100,101,118,105,99,101]⟩,.string (bs nm),.int .i64 (N:Nat),.int .i64 0,.slice none 0 0]
    obtain⟨A8,C8,W8,hr8,hR8,hb78⟩:=qI (ty:=22) (m:= [xv nm N]) hR7 (g:=W6.heap.size) (off:=0) (C:=1) (us:= [.slice none 0 0]) rfl (λi h h' j hj=>by
     obtain rfl:i=0:=by simp at h;omega
     simp only[Nat.zero_mul,Nat.zero_add]
     exact hW6.cell j) (λi h h'=>by
     obtain rfl:i=0:=by simp at h;omega
     exact .mk [] [] none 0 rfl (Nat.le_refl _) (by omega) (λi h=>by simp at h) (λi h=>by simp at h) (λx h=>by cases h)) (by rw[←HL.out];omega) (by simp)
    rw[←HL.out]at hr8 hR8;have e1: [xv nm N].length=1:=rfl;rw[e1]at hr8 hR8;have hM8:=hM6.below hb78 (by have:=hb56.size;simp at this;simp;omega);have hB38:Below W3.heap.size W3 W8:=hR8.bel
    obtain⟨W9,hW9⟩:∃W9,W9=W8.setCell ⟨W3.heap.size,4,none⟩ (.slice A8 (L+1) C8):=⟨_,rfl⟩
    have hB39:Below W3.heap.size W3 W9:=by rw[hW9];exact hB38.setCell (Nat.le_refl _) _
    have hR9:xn W3 W4.heap.size W9 (n.l++ [xv nm N]) (.slice A8 (L+1) C8):=by rw[hW9];exact hR8.set (Nat.le_refl _) (by show W3.heap.size<W4.heap.size;omega) _
    have hM9:zi W9 W3.heap.size 24 #[.string (bs n.op),.string (bs n.s),.int .i64 n.n,.int .i64 n.a,.slice A8 (L+1) C8]:=by rw[hW9];exact hM8.putP 4 _
    have hN9:=hN3.below hB39 hN3.lt;have hS9:=hS.below hB39 hS.lt;have hml:(vk n nm N).l.length=L+1:=by show(n.l++ [xv nm N]).length=L+1;rw[List.length_append,←HL.out];rfl
    have hrd9:j0 W9 (vk n nm N) A8 C8:=⟨by
     rw[hml]
     have q:=hR9.rd (λy hy=>by
      rcases List.mem_append.1 hy with hy|hy
      ·exact HLEN.out y hy
      ·rw[List.mem_singleton.1 hy]
       exact⟨by show nm.length<maxLen;unfold maxLen;omega,by show zd.length<maxLen;unfold maxLen;decide⟩)
     have e:(n.l++ [xv nm N]).length=L+1:=hml;rw[e]at q
     exact q,hrd.s,hrd.op⟩
    have hck9:=yq (vk n nm N) A8 C8 W9 hrd9 HLIM.out;rw[hml]at hck9;replace hck9:Calls Tryz.prog 8 #[.agg #[.string (bs n.op),.string (bs n.s),.int .i64 n.n,.int .i64 n.a,.slice A8 (L+1) C8]] W9 _:=hck9;have m0:=hM8.cell 0;have m1:=hM8.cell 1;have m2:=hM8.cell 2;have m3:=hM8.cell 3;have m84:=hM8.cell 4;have f84:=hM8.free 4;have ml8:=hM8.lt;simp only[qt,qu,qr]at m0 m1 m2 m3 m84;have p0:=hM9.cell 0;have p1:=hM9.cell 1;have p2:=hM9.cell 2;have p3:=hM9.cell 3;have p4:=hM9.cell 4;have pl:=hM9.lt;simp only[qt,qu,qr]at p0 p1 p2 p3 p4;have HW9:=zk hW9;have HSZ4:=zk hsz4;clear hR8 hM8 hM9 hB38 hM6 hN6 hR7 hW6 hR6 hM5 hN5 hb5 hR5 hb4 hM4 hN4 hW4 hsz4 hb56 hb78 e1 hW9 hml hrd9 hR9;rcases hor with hok|⟨⟨ae,her⟩,h64⟩
    ·rw[hok]at hck9
     have ED:=zk (show(jm n N s).devs.length=DL+1 by show(s.devs++ [N]).length=_;rw[List.length_append,←HDL.out];rfl);have EP:=zk (show(jm n N s).parts.length=NP+1 by show(TT _ _ _).length=_;rw[xC HDV.out,←HNP.out]);have EJ:=zk (show(jm n N s).jour=J from HJ.out.symm);have ER:=zk (show(jm n N s).ro=ro from HRO.out.symm)
     obtain⟨X2,hX2⟩:∃X2,X2=(jm n N s).expo:=⟨_,rfl⟩
     have EX:=zk hX2.symm;clear hX2 hok
     go_wp2_with (first
      |((refine zb 54 rfl ?_)
        (refine zc (some 54) (.bool false) rfl (by rfl) (qw _ _ rfl nm [] rfl rfl false hnl _) ?_))
      |((refine zb 86 rfl ?_)
        (refine zc (some 86) (.bool false) rfl (by rfl) (qw _ _ rfl nm [] rfl rfl false hnl _) ?_))
      |((refine zb 89 rfl ?_)
        rw[←HW4.out];(refine zq (some 89) (.slice (some ⟨W4.heap.size,0,none⟩) 0 0) (W4.alloc (.cells #[] 24)) rfl (by rfl) (by kernel_rfl) ?_))
      |((refine zb 92 rfl ?_)
        (refine zq (some 92) (.slice A6 L C6) W6 rfl (by rfl) (zL _ _ rfl rfl rfl hr6) ?_))
      |((refine zb 95 rfl ?_)
        (refine zc (some 95) (.int .i64 ((Z % 2048:Nat):Int)) rfl (by rfl) (jl _ rfl Z rfl _) ?_))
      |((refine zb 96 rfl ?_)
        (refine zc (some 96) (.int .i64 (N:Nat)) rfl (by rfl) (jk _ rfl (Z % 2048) N rfl HNN.out (by omega) _) ?_))
      |((refine zb 98 rfl ?_)
        (refine zq (some 98) (.slice (some ⟨W6.heap.size,0,none⟩) 1 1) (W6.alloc (.cells #[.string ⟨#[100,101,118,105,99,101]⟩,.string (bs nm),.int .i64 (N:Nat),.int .i64 0,.slice none 0 0] 24)) rfl (by rfl) (by kernel_rfl) ?_))
      |((refine zb 99 rfl ?_)
        (refine zq (some 99) (.slice A8 (L+1) C8) W8 rfl (by rfl) (zL _ _ rfl rfl rfl hr8) ?_))
      |((refine zb 102 rfl ?_)
        rw[←HW9.out];(refine zc (some 102) (.agg #[.string (bs n.op),.string (bs n.s),.int .i64 n.n,.int .i64 n.a,.slice A8 (L+1) C8]) rfl (by rfl) (by unfold execOp;go_simp) ?_))
      |((go_at_call 8)
        refine hck9.mono ?_;rintro e W10 ⟨hb10,vd2,vp2,rfl,hst10⟩;obtain⟨gd2,od2,Cd2,rfl,hq1,hq2,hgd2,hdv2⟩:=hst10.dev (by rw[ED.out];omega);obtain⟨gb,ob,Cp2,rfl,hq3,hq4,hgb,-,hPb⟩:=hst10.pts (by rw[EP.out];omega);(rw[ED.out,EP.out,EJ.out,ER.out,EX.out])))
     have hb11:=zh W10 (.cells #[.slice (some ⟨gd2,od2,none⟩) (DL+1) Cd2,.int .i64 (J:Nat),.slice (some ⟨gb,ob,none⟩) (NP+1) Cp2,.int .i64 (X2:Nat),.bool ro] 32);have hS11:=(hS9.below hb10 hS9.lt).alloc (.cells #[.slice (some ⟨gd2,od2,none⟩) (DL+1) Cd2,.int .i64 (J:Nat),.slice (some ⟨gb,ob,none⟩) (NP+1) Cp2,.int .i64 (X2:Nat),.bool ro] 32);have hN11:=(hN9.below hb10 hN9.lt).alloc (.cells #[.slice (some ⟨gd2,od2,none⟩) (DL+1) Cd2,.int .i64 (J:Nat),.slice (some ⟨gb,ob,none⟩) (NP+1) Cp2,.int .i64 (X2:Nat),.bool ro] 32);have hT11:=zi.new W10 32 #[.slice (some ⟨gd2,od2,none⟩) (DL+1) Cd2,.int .i64 (J:Nat),.slice (some ⟨gb,ob,none⟩) (NP+1) Cp2,.int .i64 (X2:Nat),.bool ro];have hB311:Below W3.heap.size W3 (W10.alloc (.cells #[.slice (some ⟨gd2,od2,none⟩) (DL+1) Cd2,.int .i64 (J:Nat),.slice (some ⟨gb,ob,none⟩) (NP+1) Cp2,.int .i64 (X2:Nat),.bool ro] 32)):=(hB39.trans (hb10.mono hB39.size)).trans (hb11.mono (by have:=hB39.size;have:=hb10.size;omega));have hPb11:=hPb.up hb11;have hPa11:=hPa3.up hB311;have hgb11:=Nat.lt_of_lt_of_le hgb hb11.size;have hga11:=Nat.lt_of_lt_of_le hga3 hB311.size;have hgd11:=Nat.lt_of_lt_of_le hgd2 hb11.size;have hdz:=za hb11 (hdv2 DL (by rw[ED.out];omega))
     have hgdz:(jm n N s).devs.getD DL 0=N:=by
      show(s.devs++ [N]).getD DL 0=N;rw[List.getD_eq_getElem?_getD,HDL.out,List.getElem?_append_right (Nat.le_refl _)];simp
     rw[hgdz]at hdz;clear hgdz hdv2 hPb hb11 hb10 hck9 m0 m1 m2 m3 m84 f84 ml8 p0 p1 p2 p3 p4 pl hq1 hq2 hq3 hq4 hst10 hS9 hN9;generalize W10.heap.size=tb at *;generalize W10.alloc (.cells #[.slice (some ⟨gd2,od2,none⟩) (DL+1) Cd2,.int .i64 (J:Nat),.slice (some ⟨gb,ob,none⟩) (NP+1) Cp2,.int .i64 (X2:Nat),.bool ro] 32)=W11 at *;have n0:=hN11.cell 0;have n4:=hN11.cell 4;have nl:=hN11.lt;simp only[qt,qu,qr]at n0 n4
     go_loop [20,21] (λz20 z21=>∃i:Nat,z20= .int .i64 (Qy n.l i:Nat)∧z21= .int .i64 (i:Nat)∧i≤L) (λ_ z21=>L-(intOf z21).toNat)
     case atStart=>exact⟨0,rfl,rfl,Nat.zero_le _⟩
     case round =>
      obtain⟨i,rfl,rfl,hi⟩:=hrel;by_cases hil:i<L
      ·have hii:(i:Int)<(L:Int):=by omega
       have hil':i<n.l.length:=by rw[←HL.out];exact hil
       have d0:=(World.cell?_of_block (hB311.block gn hgn)).trans (HCE.out i hil' (by rw[HUS.out];exact hil') 0 (by decide));simp only[qa,List.getElem?_toArray,List.getElem?_cons_zero,Nat.add_zero]at d0;have HDS:=zk (ZH n.l hil');have hdl:=Vw n.l i
       obtain⟨B,hB⟩:∃B,B=(n.l[i].op==zd):=⟨_,rfl⟩
       have HB:=zk hB;clear hB;generalize n.l[i].op=sy at *;generalize hd1:Qy n.l (i+1)=d1 at *;have HD1:=zk hd1;clear hd1;generalize Qy n.l i=dd at *;cases hBB:B with
       |true =>
        have HE:=zk (show d1=dd+1 from by rw[HDS.out,if_pos (by simpa [hBB]using HB.out)]);have HBQ:=zk (show(sy==zd)=true from HB.out.symm.trans hBB);clear hBB
        go_wp2_with (first
         |((refine zb 127 rfl ?_)
           (refine zc (some 127) _ rfl (by rfl) (zK _ _ rfl gn on i L C rfl rfl hil _) ?_))
         |((refine zb 130 rfl ?_)
           (refine zc (some 130) (.bool true) rfl (by rfl) (qw _ _ rfl sy zd rfl rfl true HBQ.out _) ?_)))
        go_round
        case rel=>exact⟨i+1,by rw[HD1.out,HE.out];go_num,by go_num,by omega⟩
        case measure=>simp[intOf];omega
       |false =>
        have HE:=zk (show d1=dd from by rw[HDS.out,if_neg (by simpa [hBB]using HB.out)];rfl);have HBQ:=zk (show(sy==zd)=false from HB.out.symm.trans hBB);clear hBB
        go_wp2_with (first
         |((refine zb 127 rfl ?_)
           (refine zc (some 127) _ rfl (by rfl) (zK _ _ rfl gn on i L C rfl rfl hil _) ?_))
         |((refine zb 130 rfl ?_)
           (refine zc (some 130) (.bool false) rfl (by rfl) (qw _ _ rfl sy zd rfl rfl false HBQ.out _) ?_)))
        go_round
        case rel=>exact⟨i+1,by rw[HD1.out,HE.out],by go_num,by omega⟩
        case measure=>simp[intOf];omega
      ·obtain rfl:L=i:=by omega
       have hDe:Qy n.l L=D:=by
        rw[HD.out,HL.out];unfold Qy yO;rw[List.take_length]
       rw[hDe];clear hDe;have s0:=hS11.cell 0;have s1:=hS11.cell 1;have s2:=hS11.cell 2;have s4:=hS11.cell 4;have sl:=hS11.lt;have t0:=hT11.cell 0;have t1:=hT11.cell 1;have t2:=hT11.cell 2;have t4:=hT11.cell 4;have tl:=hT11.lt;simp only[qt,qu,qr]at s0 s1 s2 s4 t0 t1 t2 t4
       go_wp2_with (first
        |((refine zb 171 rfl ?_)
          (refine zc (some 171) _ rfl (by rfl) (qz _ _ rfl gd2 od2 DL (DL+1) Cd2 rfl rfl (by omega) _) ?_))
        |((refine zb 174 rfl ?_)
          (refine zc (some 174) (.int .i64 ((Z % 2048:Nat):Int)) rfl (by rfl) (jl _ rfl Z rfl _) ?_))
        |((refine zb 175 rfl ?_)
          (refine zc (some 175) (.int .i64 (N:Nat)) rfl (by rfl) (jk _ rfl (Z % 2048) N rfl HNN.out (by omega) _) ?_)))
       clear s0 s1 s2 s4 sl t0 t1 t2 t4 tl hdz n0 n4 nl;have hB11:Below w.heap.size w W11:=hB3.trans (hB311.mono hB3.size)
       go_loopw [22] (λz wr=>∃(i:Nat),z= .int .i64 (i:Nat)∧i≤NP∧Below W11.heap.size W11 wr) (λz _=>NP-(intOf z).toNat)
       case atStart=>exact⟨0,rfl,Nat.zero_le _,Below.refl _ _⟩
       case round =>
        obtain⟨m,rfl,hm,Br⟩:=hrel;have hSr:=hS11.below Br hS11.lt;have hTr:=hT11.below Br hT11.lt;have s2:=hSr.cell 2;have t2:=hTr.cell 2;have sl:=hSr.lt;have tl:=hTr.lt;have hgb':=Nat.lt_of_lt_of_le hgb11 Br.size;have hga':=Nat.lt_of_lt_of_le hga11 Br.size;simp only[qt,qu,qr]at s2 t2;by_cases hmn:m<NP
        ·have hmi:(m:Int)<(NP:Int):=by omega
         have hmp:m<s.parts.length:=by rw[←HNP.out];exact hmn
         obtain⟨hq,hqe⟩:=vm (N:=N) HDV.out hmp;obtain⟨Ak,Ck,A2,L2,C2,A3,L3,C3,hcl,-,-,-⟩:=(hPa11.up Br).all hmp;obtain⟨Ak',Ck',A2',L2',C2',A3',L3',C3',hcl',-,-,-⟩:=(hPb11.up Br).all hq;rw[hqe,←HD.out]at hcl';have ca0:=hcl 0 (by decide);have ca1:=hcl 1 (by decide);have ca4:=hcl 4 (by decide);have cb0:=hcl' 0 (by decide);have cb1:=hcl' 1 (by decide);have cb4:=hcl' 4 (by decide);simp only[List.getElem?_toArray,List.getElem?_cons_zero,List.getElem?_cons_succ,Nat.add_zero]at ca0 ca1 ca4 cb0 cb1 cb4;rw[show(xk D s.parts[m]).kind=s.parts[m].kind from rfl]at cb0;rw[show(xk D s.parts[m]).size=s.parts[m].size from rfl]at cb1;rw[show(xk D s.parts[m]).first=s.parts[m].first from rfl]at cb4;have hSD:=zk (show sg D m<NP+1 by rw[←EP.out,HD.out];exact hq);clear hcl hcl' hqe hq;generalize s.parts[m].kind=PK at *;generalize s.parts[m].size=PS at *;generalize s.parts[m].first=PF at *;by_cases hmD:m<D
         ·have hmDi:¬(D:Int)≤(m:Int):=by omega
          have hmDd:decide (D≤m)=false:=decide_eq_false (by omega);have esg:sg D m=m:=if_pos hmD;rw[esg]at cb0 cb1 cb4;have q1:decide (NP≤m)=false:=decide_eq_false (by omega);have q2:decide (NP+1≤m)=false:=decide_eq_false (by omega);clear esg
          go_wp2
          go_quiet (fail)
          go_wp2
          go_roundw
          case rel=>exact⟨m+1,by go_num,by omega,qM Br _⟩
          case measure=>simp[intOf];omega
         ·have hmDi:(D:Int)≤(m:Int):=by omega
          have hmDd:decide (D≤m)=true:=decide_eq_true (by omega);have esg:sg D m=m+1:=if_neg hmD;rw[esg]at cb0 cb1 cb4;have q1:decide (NP≤m)=false:=decide_eq_false (by omega);have q2:decide (NP+1≤m+1)=false:=decide_eq_false (by omega);clear esg
          go_wp2
          go_quiet (fail)
          go_wp2
          go_roundw
          case rel=>exact⟨m+1,by go_num,by omega,qM Br _⟩
          case measure=>simp[intOf];omega
        ·obtain rfl:NP=m:=by omega
         have s3:=hSr.cell 3;have t3:=hTr.cell 3;simp only[qt,qu,qr]at s3 t3;have hXp:X<s.parts.length:=by rw[←HNP.out];exact hXn
         obtain⟨hq,hqe⟩:=vm (N:=N) HDV.out hXp;obtain⟨Ak,Ck,A2,L2,C2,A3,L3,C3,hcl,-,-,-⟩:=(hPa11.up Br).all hXp;obtain⟨Ak',Ck',A2',L2',C2',A3',L3',C3',hcl',-,-,-⟩:=(hPb11.up Br).all hq;rw[hqe,←HD.out]at hcl';have ca1:=hcl 1 (by decide);have cb1:=hcl' 1 (by decide);simp only[qt,qu,qr]at ca1 cb1;rw[show(xk D s.parts[X]).size=s.parts[X].size from rfl]at cb1
         have hX2n:X2<NP+1:=by
          rw[←EP.out,←EX.out];show sg (yO n) s.expo<_;rw[←HX.out];exact hq
         have hX2e:sg D X=X2:=by
          rw[←EX.out,HD.out,HX.out];rfl
         rw[hX2e]at cb1;clear hX2e hcl hcl' hqe hq;generalize s.parts[X].size=PS at *
         go_wp2
         refine wp_region_held_drew (S:=λwz=>Below wr.heap.size wr wz) (by kernel_rfl) ((Below.refl _ wr).drew) (λhHeld=>?_);refine Zj 0 (some 234) 11 #[] (by kernel_rfl) rfl rfl (by rfl) (by kernel_rfl) (vj _) ?_;rintro e w4 ⟨rfl,hb4'⟩;have hb4:Below wr.heap.size wr w4:=(zm (Below.refl _ wr)).trans hb4';refine⟨_,rfl,hb4,?_⟩;simp only[Act.put,ze,zg,zf];clear hHeld;have hHeld:=hb4;refine zC 1 (some 235) (.bool true) hHeld ?_;simp only[Act.put,ze,zg,zf];refine zC 2 (some 236) (.pointer (some ⟨sb,2,none⟩)) hHeld ?_;simp only[Act.put,ze,zg,zf];refine zP 3 (some 237) (.slice (some ⟨ga,oa,none⟩) NP Cp) rfl rfl (λwz hz=>by have z0:=za hz s2;unfold execOp;go_simp) hHeld ?_;simp only[Act.put,ze,zg,zf];refine zC 4 (some 238) (.pointer (some ⟨sb,3,none⟩)) hHeld ?_;simp only[Act.put,ze,zg,zf];refine zP 5 (some 239) (.int .i64 (X:Nat)) rfl rfl (λwz hz=>by have z0:=za hz s3;unfold execOp;go_simp) hHeld ?_;simp only[Act.put,ze,zg,zf];refine zP 6 (some 240) (.pointer (some ⟨ga,oa+X*8,none⟩)) rfl rfl (λwz _=>zJ _ _ rfl ga oa X NP Cp rfl rfl hXn wz) hHeld ?_;simp only[Act.put,ze,zg,zf];refine zC 7 (some 241) (.pointer (some ⟨ga,oa+X*8+1,none⟩)) hHeld ?_;simp only[Act.put,ze,zg,zf];refine zP 8 (some 242) (.int .i64 (PS:Nat)) rfl rfl (λwz hz=>by have z0:=za hz ca1;unfold execOp;go_simp) hHeld ?_;simp only[Act.put,ze,zg,zf];refine zC 9 (some 243) (.pointer (some ⟨tb,2,none⟩)) hHeld ?_;simp only[Act.put,ze,zg,zf];refine zP 10 (some 244) (.slice (some ⟨gb,ob,none⟩) (NP+1) Cp2) rfl rfl (λwz hz=>by have z0:=za hz t2;unfold execOp;go_simp) hHeld ?_;simp only[Act.put,ze,zg,zf];refine zC 11 (some 245) (.pointer (some ⟨tb,3,none⟩)) hHeld ?_;simp only[Act.put,ze,zg,zf];refine zP 12 (some 246) (.int .i64 (X2:Nat)) rfl rfl (λwz hz=>by have z0:=za hz t3;unfold execOp;go_simp) hHeld ?_;simp only[Act.put,ze,zg,zf];refine zP 13 (some 247) (.pointer (some ⟨gb,ob+X2*8,none⟩)) rfl rfl (λwz _=>zJ _ _ rfl gb ob X2 (NP+1) Cp2 rfl rfl hX2n wz) hHeld ?_;simp only[Act.put,ze,zg,zf];refine zC 14 (some 248) (.pointer (some ⟨gb,ob+X2*8+1,none⟩)) hHeld ?_;simp only[Act.put,ze,zg,zf];refine zP 15 (some 249) (.int .i64 (PS:Nat)) rfl rfl (λwz hz=>by have z0:=za hz cb1;unfold execOp;go_simp) hHeld ?_;simp only[Act.put,ze,zg,zf];refine zP 16 (some 250) (.bool true) rfl rfl (λwz _=>ZR _ _ rfl PS rfl rfl wz) hHeld ?_;simp only[Act.put,ze,zg,zf];refine zC 17 (some 251) (.bool true) hHeld ?_;simp only[Act.put,ze,zg,zf];refine zC 18 (some 4) (.bool true) hHeld ?_;simp only[Act.put,ze,zg,zf];refine wpAnyH_done (by kernel_rfl) ?_ _
         go_wp2
         go_ret
         exact⟨rfl,(hB11.trans (Br.mono hB11.size)).trans (hb4.mono (by have:=hB11.size;have:=Br.size;omega))⟩
    ·rw[her]at hck9
     have hNP64:64≤NP:=by rw[HNP.out];exact h64
     have v1:decide (64≤NP)=true:=decide_eq_true hNP64;have v2:decide ((64:Int)≤((NP:Nat):Int))=true:=decide_eq_true (by omega);clear her h64
     go_wp2_with (first
      |((refine zb 54 rfl ?_)
        (refine zc (some 54) (.bool false) rfl (by rfl) (qw _ _ rfl nm [] rfl rfl false hnl _) ?_))
      |((refine zb 86 rfl ?_)
        (refine zc (some 86) (.bool false) rfl (by rfl) (qw _ _ rfl nm [] rfl rfl false hnl _) ?_))
      |((refine zb 89 rfl ?_)
        rw[←HW4.out];(refine zq (some 89) (.slice (some ⟨W4.heap.size,0,none⟩) 0 0) (W4.alloc (.cells #[] 24)) rfl (by rfl) (by kernel_rfl) ?_))
      |((refine zb 92 rfl ?_)
        (refine zq (some 92) (.slice A6 L C6) W6 rfl (by rfl) (zL _ _ rfl rfl rfl hr6) ?_))
      |((refine zb 95 rfl ?_)
        (refine zc (some 95) (.int .i64 ((Z % 2048:Nat):Int)) rfl (by rfl) (jl _ rfl Z rfl _) ?_))
      |((refine zb 96 rfl ?_)
        (refine zc (some 96) (.int .i64 (N:Nat)) rfl (by rfl) (jk _ rfl (Z % 2048) N rfl HNN.out (by omega) _) ?_))
      |((refine zb 98 rfl ?_)
        (refine zq (some 98) (.slice (some ⟨W6.heap.size,0,none⟩) 1 1) (W6.alloc (.cells #[.string ⟨#[100,101,118,105,99,101]⟩,.string (bs nm),.int .i64 (N:Nat),.int .i64 0,.slice none 0 0] 24)) rfl (by rfl) (by kernel_rfl) ?_))
      |((refine zb 99 rfl ?_)
        (refine zq (some 99) (.slice A8 (L+1) C8) W8 rfl (by rfl) (zL _ _ rfl rfl rfl hr8) ?_))
      |((refine zb 102 rfl ?_)
        rw[←HW9.out];(refine zc (some 102) (.agg #[.string (bs n.op),.string (bs n.s),.int .i64 n.n,.int .i64 n.a,.slice A8 (L+1) C8]) rfl (by rfl) (by unfold execOp;go_simp) ?_))
      |((go_at_call 8)
        refine hck9.mono ?_;rintro e W10 ⟨hb10,rfl⟩;have hS10:=(hS9.below hb10 hS9.lt).alloc (.cells #[.slice none 0 0,.int .i64 0,.slice none 0 0,.int .i64 0,.bool false] 32);have t0:=hS10.cell 0;have t1:=hS10.cell 1;have t2:=hS10.cell 2;have t3:=hS10.cell 3;have t4:=hS10.cell 4;simp only[qt,qu,qr]at t0 t1 t2 t3 t4;have tl:=hS10.lt;(clear hck9)))
     go_ret
     exact⟨rfl,(hB3.trans (((hB39.trans (hb10.mono hB39.size)).alloc (by have:=hB39.size;have:=hb10.size;omega) _).mono hB3.size))⟩
   ·have hki:¬(k:Int)<16:=by omega
    as_aux_lemma =>
    have hN4:=hN3.alloc (.cells #[.string (bs n.op),.string (bs n.s),.int .i64 n.n,.int .i64 n.a,.slice (some ⟨gn,on,none⟩) L C] 24);have hM4:=zi.new W3 24 #[.string (bs n.op),.string (bs n.s),.int .i64 n.n,.int .i64 n.a,.slice (some ⟨gn,on,none⟩) L C];have hb4:=zh W3 (.cells #[.string (bs n.op),.string (bs n.s),.int .i64 n.n,.int .i64 n.a,.slice (some ⟨gn,on,none⟩) L C] 24)
    obtain⟨W4,hW4⟩:∃W4,W4=W3.alloc (.cells #[.string (bs n.op),.string (bs n.s),.int .i64 n.n,.int .i64 n.a,.slice (some ⟨gn,on,none⟩) L C] 24):=⟨_,rfl⟩
    have HW4:=zk hW4;have hsz4:W4.heap.size=W3.heap.size+1:=by rw[hW4];simp
    rw[←hW4]at hN4 hM4 hb4;have hR5:=ZB (W0:=W3) hb4;have hN5:=hN4.alloc (.cells #[] 24);have hM5:=hM4.alloc (.cells #[] 24);have b4:=hN5.cell 4;have bl:=hN5.lt;simp only[qt,qu,qr]at b4;have hb5:=hb4.trans ((zh W4 (.cells #[] 24)).mono hb4.size);obtain⟨A6,C6,W6,hr6,hR6,hb56⟩:=qI (ty:=22) hR5 (g:=gn) (off:=on) (C:=C) HUS.out (λi h h' j hj=>(World.cell?_of_block (hb5.block gn hgn)).trans (HCE.out i h h' j hj)) HKI.out (by simp) (by rw[←HL.out];omega);rw[←HL.out,List.length_nil,Nat.zero_add]at hr6;rw[List.nil_append,←HL.out,List.length_nil,Nat.zero_add]at hR6;have hM6:=(hM5.below hb56 (by omega)).alloc (.cells #[.string ⟨#[100,101,118,105,99,101]⟩,.string (bs nm),.int .i64 (N:Nat),.int .i64 0,.slice none 0 0] 24);have hN6:=(hN5.below hb56 (by have:=hN3.lt;omega)).alloc (.cells #[.string ⟨#[100,101,118,105,99,101]⟩,.string (bs nm),.int .i64 (N:Nat),.int .i64 0,.slice none 0 0] 24);have hR7:=hR6.below (zh W6 (.cells #[.string ⟨#[100,101,118,105,99,101]⟩,.string (bs nm),.int .i64 (N:Nat),.int .i64 0,.slice none 0 0] 24));have hW6:=zi.new W6 24 #[.string ⟨#[100,101,118,105,99,101]⟩,.string (bs nm),.int .i64 (N:Nat),.int .i64 0,.slice none 0 0]
    obtain⟨A8,C8,W8,hr8,hR8,hb78⟩:=qI (ty:=22) (m:= [xv nm N]) hR7 (g:=W6.heap.size) (off:=0) (C:=1) (us:= [.slice none 0 0]) rfl (λi h h' j hj=>by
     obtain rfl:i=0:=by simp at h;omega
     simp only[Nat.zero_mul,Nat.zero_add]
     exact hW6.cell j) (λi h h'=>by
     obtain rfl:i=0:=by simp at h;omega
     exact .mk [] [] none 0 rfl (Nat.le_refl _) (by omega) (λi h=>by simp at h) (λi h=>by simp at h) (λx h=>by cases h)) (by rw[←HL.out];omega) (by simp)
    rw[←HL.out]at hr8 hR8;have e1: [xv nm N].length=1:=rfl;rw[e1]at hr8 hR8;have hM8:=hM6.below hb78 (by have:=hb56.size;simp at this;simp;omega);have hB38:Below W3.heap.size W3 W8:=hR8.bel
    obtain⟨W9,hW9⟩:∃W9,W9=W8.setCell ⟨W3.heap.size,4,none⟩ (.slice A8 (L+1) C8):=⟨_,rfl⟩
    have hB39:Below W3.heap.size W3 W9:=by rw[hW9];exact hB38.setCell (Nat.le_refl _) _
    have hR9:xn W3 W4.heap.size W9 (n.l++ [xv nm N]) (.slice A8 (L+1) C8):=by rw[hW9];exact hR8.set (Nat.le_refl _) (by show W3.heap.size<W4.heap.size;omega) _
    have hM9:zi W9 W3.heap.size 24 #[.string (bs n.op),.string (bs n.s),.int .i64 n.n,.int .i64 n.a,.slice A8 (L+1) C8]:=by rw[hW9];exact hM8.putP 4 _
    have hN9:=hN3.below hB39 hN3.lt;have hS9:=hS.below hB39 hS.lt;have hml:(vk n nm N).l.length=L+1:=by show(n.l++ [xv nm N]).length=L+1;rw[List.length_append,←HL.out];rfl
    have hrd9:j0 W9 (vk n nm N) A8 C8:=⟨by
     rw[hml]
     have q:=hR9.rd (λy hy=>by
      rcases List.mem_append.1 hy with hy|hy
      ·exact HLEN.out y hy
      ·rw[List.mem_singleton.1 hy]
       exact⟨by show nm.length<maxLen;unfold maxLen;omega,by show zd.length<maxLen;unfold maxLen;decide⟩)
     have e:(n.l++ [xv nm N]).length=L+1:=hml;rw[e]at q
     exact q,hrd.s,hrd.op⟩
    have hck9:=yq (vk n nm N) A8 C8 W9 hrd9 HLIM.out;rw[hml]at hck9;replace hck9:Calls Tryz.prog 8 #[.agg #[.string (bs n.op),.string (bs n.s),.int .i64 n.n,.int .i64 n.a,.slice A8 (L+1) C8]] W9 _:=hck9;have m0:=hM8.cell 0;have m1:=hM8.cell 1;have m2:=hM8.cell 2;have m3:=hM8.cell 3;have m84:=hM8.cell 4;have f84:=hM8.free 4;have ml8:=hM8.lt;simp only[qt,qu,qr]at m0 m1 m2 m3 m84;have p0:=hM9.cell 0;have p1:=hM9.cell 1;have p2:=hM9.cell 2;have p3:=hM9.cell 3;have p4:=hM9.cell 4;have pl:=hM9.lt;simp only[qt,qu,qr]at p0 p1 p2 p3 p4;have HW9:=zk hW9;have HSZ4:=zk hsz4;clear hR8 hM8 hM9 hB38 hM6 hN6 hR7 hW6 hR6 hM5 hN5 hb5 hR5 hb4 hM4 hN4 hW4 hsz4 hb56 hb78 e1 hW9 hml hrd9 hR9;rcases hor with hok|⟨⟨ae,her⟩,h64⟩
    ·rw[hok]at hck9
     have ED:=zk (show(jm n N s).devs.length=DL+1 by show(s.devs++ [N]).length=_;rw[List.length_append,←HDL.out];rfl);have EP:=zk (show(jm n N s).parts.length=NP+1 by show(TT _ _ _).length=_;rw[xC HDV.out,←HNP.out]);have EJ:=zk (show(jm n N s).jour=J from HJ.out.symm);have ER:=zk (show(jm n N s).ro=ro from HRO.out.symm)
     obtain⟨X2,hX2⟩:∃X2,X2=(jm n N s).expo:=⟨_,rfl⟩
     have EX:=zk hX2.symm;clear hX2 hok
     go_wp2_with (first
      |((refine zb 54 rfl ?_)
        (refine zc (some 54) (.bool false) rfl (by rfl) (qw _ _ rfl nm [] rfl rfl false hnl _) ?_))
      |((refine zb 86 rfl ?_)
        (refine zc (some 86) (.bool false) rfl (by rfl) (qw _ _ rfl nm [] rfl rfl false hnl _) ?_))
      |((refine zb 89 rfl ?_)
        rw[←HW4.out];(refine zq (some 89) (.slice (some ⟨W4.heap.size,0,none⟩) 0 0) (W4.alloc (.cells #[] 24)) rfl (by rfl) (by kernel_rfl) ?_))
      |((refine zb 92 rfl ?_)
        (refine zq (some 92) (.slice A6 L C6) W6 rfl (by rfl) (zL _ _ rfl rfl rfl hr6) ?_))
      |((refine zb 95 rfl ?_)
        (refine zc (some 95) (.int .i64 ((Z % 2048:Nat):Int)) rfl (by rfl) (jl _ rfl Z rfl _) ?_))
      |((refine zb 96 rfl ?_)
        (refine zc (some 96) (.int .i64 (N:Nat)) rfl (by rfl) (jk _ rfl (Z % 2048) N rfl HNN.out (by omega) _) ?_))
      |((refine zb 98 rfl ?_)
        (refine zq (some 98) (.slice (some ⟨W6.heap.size,0,none⟩) 1 1) (W6.alloc (.cells #[.string ⟨#[100,101,118,105,99,101]⟩,.string (bs nm),.int .i64 (N:Nat),.int .i64 0,.slice none 0 0] 24)) rfl (by rfl) (by kernel_rfl) ?_))
      |((refine zb 99 rfl ?_)
        (refine zq (some 99) (.slice A8 (L+1) C8) W8 rfl (by rfl) (zL _ _ rfl rfl rfl hr8) ?_))
      |((refine zb 102 rfl ?_)
        rw[←HW9.out];(refine zc (some 102) (.agg #[.string (bs n.op),.string (bs n.s),.int .i64 n.n,.int .i64 n.a,.slice A8 (L+1) C8]) rfl (by rfl) (by unfold execOp;go_simp) ?_))
      |((go_at_call 8)
        refine hck9.mono ?_;rintro e W10 ⟨hb10,vd2,vp2,rfl,hst10⟩;obtain⟨gd2,od2,Cd2,rfl,hq1,hq2,hgd2,hdv2⟩:=hst10.dev (by rw[ED.out];omega);obtain⟨gb,ob,Cp2,rfl,hq3,hq4,hgb,-,hPb⟩:=hst10.pts (by rw[EP.out];omega);(rw[ED.out,EP.out,EJ.out,ER.out,EX.out])))
     have hb11:=zh W10 (.cells #[.slice (some ⟨gd2,od2,none⟩) (DL+1) Cd2,.int .i64 (J:Nat),.slice (some ⟨gb,ob,none⟩) (NP+1) Cp2,.int .i64 (X2:Nat),.bool ro] 32);have hS11:=(hS9.below hb10 hS9.lt).alloc (.cells #[.slice (some ⟨gd2,od2,none⟩) (DL+1) Cd2,.int .i64 (J:Nat),.slice (some ⟨gb,ob,none⟩) (NP+1) Cp2,.int .i64 (X2:Nat),.bool ro] 32);have hN11:=(hN9.below hb10 hN9.lt).alloc (.cells #[.slice (some ⟨gd2,od2,none⟩) (DL+1) Cd2,.int .i64 (J:Nat),.slice (some ⟨gb,ob,none⟩) (NP+1) Cp2,.int .i64 (X2:Nat),.bool ro] 32);have hT11:=zi.new W10 32 #[.slice (some ⟨gd2,od2,none⟩) (DL+1) Cd2,.int .i64 (J:Nat),.slice (some ⟨gb,ob,none⟩) (NP+1) Cp2,.int .i64 (X2:Nat),.bool ro];have hB311:Below W3.heap.size W3 (W10.alloc (.cells #[.slice (some ⟨gd2,od2,none⟩) (DL+1) Cd2,.int .i64 (J:Nat),.slice (some ⟨gb,ob,none⟩) (NP+1) Cp2,.int .i64 (X2:Nat),.bool ro] 32)):=(hB39.trans (hb10.mono hB39.size)).trans (hb11.mono (by have:=hB39.size;have:=hb10.size;omega));have hPb11:=hPb.up hb11;have hPa11:=hPa3.up hB311;have hgb11:=Nat.lt_of_lt_of_le hgb hb11.size;have hga11:=Nat.lt_of_lt_of_le hga3 hB311.size;have hgd11:=Nat.lt_of_lt_of_le hgd2 hb11.size;have hdz:=za hb11 (hdv2 DL (by rw[ED.out];omega))
     have hgdz:(jm n N s).devs.getD DL 0=N:=by
      show(s.devs++ [N]).getD DL 0=N;rw[List.getD_eq_getElem?_getD,HDL.out,List.getElem?_append_right (Nat.le_refl _)];simp
     rw[hgdz]at hdz;clear hgdz hdv2 hPb hb11 hb10 hck9 m0 m1 m2 m3 m84 f84 ml8 p0 p1 p2 p3 p4 pl hq1 hq2 hq3 hq4 hst10 hS9 hN9;generalize W10.heap.size=tb at *;generalize W10.alloc (.cells #[.slice (some ⟨gd2,od2,none⟩) (DL+1) Cd2,.int .i64 (J:Nat),.slice (some ⟨gb,ob,none⟩) (NP+1) Cp2,.int .i64 (X2:Nat),.bool ro] 32)=W11 at *;have n0:=hN11.cell 0;have n4:=hN11.cell 4;have nl:=hN11.lt;simp only[qt,qu,qr]at n0 n4
     go_loop [20,21] (λz20 z21=>∃i:Nat,z20= .int .i64 (Qy n.l i:Nat)∧z21= .int .i64 (i:Nat)∧i≤L) (λ_ z21=>L-(intOf z21).toNat)
     case atStart=>exact⟨0,rfl,rfl,Nat.zero_le _⟩
     case round =>
      obtain⟨i,rfl,rfl,hi⟩:=hrel;by_cases hil:i<L
      ·have hii:(i:Int)<(L:Int):=by omega
       have hil':i<n.l.length:=by rw[←HL.out];exact hil
       have d0:=(World.cell?_of_block (hB311.block gn hgn)).trans (HCE.out i hil' (by rw[HUS.out];exact hil') 0 (by decide));simp only[qa,List.getElem?_toArray,List.getElem?_cons_zero,Nat.add_zero]at d0;have HDS:=zk (ZH n.l hil');have hdl:=Vw n.l i
       obtain⟨B,hB⟩:∃B,B=(n.l[i].op==zd):=⟨_,rfl⟩
       have HB:=zk hB;clear hB;generalize n.l[i].op=sy at *;generalize hd1:Qy n.l (i+1)=d1 at *;have HD1:=zk hd1;clear hd1;generalize Qy n.l i=dd at *;cases hBB:B with
       |true =>
        have HE:=zk (show d1=dd+1 from by rw[HDS.out,if_pos (by simpa [hBB]using HB.out)]);have HBQ:=zk (show(sy==zd)=true from HB.out.symm.trans hBB);clear hBB
        go_wp2_with (first
         |((refine zb 127 rfl ?_)
           (refine zc (some 127) _ rfl (by rfl) (zK _ _ rfl gn on i L C rfl rfl hil _) ?_))
         |((refine zb 130 rfl ?_)
           (refine zc (some 130) (.bool true) rfl (by rfl) (qw _ _ rfl sy zd rfl rfl true HBQ.out _) ?_)))
        go_round
        case rel=>exact⟨i+1,by rw[HD1.out,HE.out];go_num,by go_num,by omega⟩
        case measure=>simp[intOf];omega
       |false =>
        have HE:=zk (show d1=dd from by rw[HDS.out,if_neg (by simpa [hBB]using HB.out)];rfl);have HBQ:=zk (show(sy==zd)=false from HB.out.symm.trans hBB);clear hBB
        go_wp2_with (first
         |((refine zb 127 rfl ?_)
           (refine zc (some 127) _ rfl (by rfl) (zK _ _ rfl gn on i L C rfl rfl hil _) ?_))
         |((refine zb 130 rfl ?_)
           (refine zc (some 130) (.bool false) rfl (by rfl) (qw _ _ rfl sy zd rfl rfl false HBQ.out _) ?_)))
        go_round
        case rel=>exact⟨i+1,by rw[HD1.out,HE.out],by go_num,by omega⟩
        case measure=>simp[intOf];omega
      ·obtain rfl:L=i:=by omega
       have hDe:Qy n.l L=D:=by
        rw[HD.out,HL.out];unfold Qy yO;rw[List.take_length]
       rw[hDe];clear hDe;have s0:=hS11.cell 0;have s1:=hS11.cell 1;have s2:=hS11.cell 2;have s4:=hS11.cell 4;have sl:=hS11.lt;have t0:=hT11.cell 0;have t1:=hT11.cell 1;have t2:=hT11.cell 2;have t4:=hT11.cell 4;have tl:=hT11.lt;simp only[qt,qu,qr]at s0 s1 s2 s4 t0 t1 t2 t4
       go_wp2_with (first
        |((refine zb 171 rfl ?_)
          (refine zc (some 171) _ rfl (by rfl) (qz _ _ rfl gd2 od2 DL (DL+1) Cd2 rfl rfl (by omega) _) ?_))
        |((refine zb 174 rfl ?_)
          (refine zc (some 174) (.int .i64 ((Z % 2048:Nat):Int)) rfl (by rfl) (jl _ rfl Z rfl _) ?_))
        |((refine zb 175 rfl ?_)
          (refine zc (some 175) (.int .i64 (N:Nat)) rfl (by rfl) (jk _ rfl (Z % 2048) N rfl HNN.out (by omega) _) ?_)))
       clear s0 s1 s2 s4 sl t0 t1 t2 t4 tl hdz n0 n4 nl;have hB11:Below w.heap.size w W11:=hB3.trans (hB311.mono hB3.size)
       go_loopw [22] (λz wr=>∃(i:Nat),z= .int .i64 (i:Nat)∧i≤NP∧Below W11.heap.size W11 wr) (λz _=>NP-(intOf z).toNat)
       case atStart=>exact⟨0,rfl,Nat.zero_le _,Below.refl _ _⟩
       case round =>
        obtain⟨m,rfl,hm,Br⟩:=hrel;have hSr:=hS11.below Br hS11.lt;have hTr:=hT11.below Br hT11.lt;have s2:=hSr.cell 2;have t2:=hTr.cell 2;have sl:=hSr.lt;have tl:=hTr.lt;have hgb':=Nat.lt_of_lt_of_le hgb11 Br.size;have hga':=Nat.lt_of_lt_of_le hga11 Br.size;simp only[qt,qu,qr]at s2 t2;by_cases hmn:m<NP
        ·have hmi:(m:Int)<(NP:Int):=by omega
         have hmp:m<s.parts.length:=by rw[←HNP.out];exact hmn
         obtain⟨hq,hqe⟩:=vm (N:=N) HDV.out hmp;obtain⟨Ak,Ck,A2,L2,C2,A3,L3,C3,hcl,-,-,-⟩:=(hPa11.up Br).all hmp;obtain⟨Ak',Ck',A2',L2',C2',A3',L3',C3',hcl',-,-,-⟩:=(hPb11.up Br).all hq;rw[hqe,←HD.out]at hcl';have ca0:=hcl 0 (by decide);have ca1:=hcl 1 (by decide);have ca4:=hcl 4 (by decide);have cb0:=hcl' 0 (by decide);have cb1:=hcl' 1 (by decide);have cb4:=hcl' 4 (by decide);simp only[List.getElem?_toArray,List.getElem?_cons_zero,List.getElem?_cons_succ,Nat.add_zero]at ca0 ca1 ca4 cb0 cb1 cb4;rw[show(xk D s.parts[m]).kind=s.parts[m].kind from rfl]at cb0;rw[show(xk D s.parts[m]).size=s.parts[m].size from rfl]at cb1;rw[show(xk D s.parts[m]).first=s.parts[m].first from rfl]at cb4;have hSD:=zk (show sg D m<NP+1 by rw[←EP.out,HD.out];exact hq);clear hcl hcl' hqe hq;generalize s.parts[m].kind=PK at *;generalize s.parts[m].size=PS at *;generalize s.parts[m].first=PF at *;by_cases hmD:m<D
         ·have hmDi:¬(D:Int)≤(m:Int):=by omega
          have hmDd:decide (D≤m)=false:=decide_eq_false (by omega);have esg:sg D m=m:=if_pos hmD;rw[esg]at cb0 cb1 cb4;have q1:decide (NP≤m)=false:=decide_eq_false (by omega);have q2:decide (NP+1≤m)=false:=decide_eq_false (by omega);clear esg
          go_wp2
          go_quiet (fail)
          go_wp2
          go_roundw
          case rel=>exact⟨m+1,by go_num,by omega,qM Br _⟩
          case measure=>simp[intOf];omega
         ·have hmDi:(D:Int)≤(m:Int):=by omega
          have hmDd:decide (D≤m)=true:=decide_eq_true (by omega);have esg:sg D m=m+1:=if_neg hmD;rw[esg]at cb0 cb1 cb4;have q1:decide (NP≤m)=false:=decide_eq_false (by omega);have q2:decide (NP+1≤m+1)=false:=decide_eq_false (by omega);clear esg
          go_wp2
          go_quiet (fail)
          go_wp2
          go_roundw
          case rel=>exact⟨m+1,by go_num,by omega,qM Br _⟩
          case measure=>simp[intOf];omega
        ·obtain rfl:NP=m:=by omega
         have s3:=hSr.cell 3;have t3:=hTr.cell 3;simp only[qt,qu,qr]at s3 t3;have hXp:X<s.parts.length:=by rw[←HNP.out];exact hXn
         obtain⟨hq,hqe⟩:=vm (N:=N) HDV.out hXp;obtain⟨Ak,Ck,A2,L2,C2,A3,L3,C3,hcl,-,-,-⟩:=(hPa11.up Br).all hXp;obtain⟨Ak',Ck',A2',L2',C2',A3',L3',C3',hcl',-,-,-⟩:=(hPb11.up Br).all hq;rw[hqe,←HD.out]at hcl';have ca1:=hcl 1 (by decide);have cb1:=hcl' 1 (by decide);simp only[qt,qu,qr]at ca1 cb1;rw[show(xk D s.parts[X]).size=s.parts[X].size from rfl]at cb1
         have hX2n:X2<NP+1:=by
          rw[←EP.out,←EX.out];show sg (yO n) s.expo<_;rw[←HX.out];exact hq
         have hX2e:sg D X=X2:=by
          rw[←EX.out,HD.out,HX.out];rfl
         rw[hX2e]at cb1;clear hX2e hcl hcl' hqe hq;generalize s.parts[X].size=PS at *
         go_wp2
         refine wp_region_held_drew (S:=λwz=>Below wr.heap.size wr wz) (by kernel_rfl) ((Below.refl _ wr).drew) (λhHeld=>?_);refine Zj 0 (some 234) 11 #[] (by kernel_rfl) rfl rfl (by rfl) (by kernel_rfl) (vj _) ?_;rintro e w4 ⟨rfl,hb4'⟩;have hb4:Below wr.heap.size wr w4:=(zm (Below.refl _ wr)).trans hb4';refine⟨_,rfl,hb4,?_⟩;simp only[Act.put,ze,zg,zf];clear hHeld;have hHeld:=hb4;refine zC 1 (some 235) (.bool true) hHeld ?_;simp only[Act.put,ze,zg,zf];refine zC 2 (some 236) (.pointer (some ⟨sb,2,none⟩)) hHeld ?_;simp only[Act.put,ze,zg,zf];refine zP 3 (some 237) (.slice (some ⟨ga,oa,none⟩) NP Cp) rfl rfl (λwz hz=>by have z0:=za hz s2;unfold execOp;go_simp) hHeld ?_;simp only[Act.put,ze,zg,zf];refine zC 4 (some 238) (.pointer (some ⟨sb,3,none⟩)) hHeld ?_;simp only[Act.put,ze,zg,zf];refine zP 5 (some 239) (.int .i64 (X:Nat)) rfl rfl (λwz hz=>by have z0:=za hz s3;unfold execOp;go_simp) hHeld ?_;simp only[Act.put,ze,zg,zf];refine zP 6 (some 240) (.pointer (some ⟨ga,oa+X*8,none⟩)) rfl rfl (λwz _=>zJ _ _ rfl ga oa X NP Cp rfl rfl hXn wz) hHeld ?_;simp only[Act.put,ze,zg,zf];refine zC 7 (some 241) (.pointer (some ⟨ga,oa+X*8+1,none⟩)) hHeld ?_;simp only[Act.put,ze,zg,zf];refine zP 8 (some 242) (.int .i64 (PS:Nat)) rfl rfl (λwz hz=>by have z0:=za hz ca1;unfold execOp;go_simp) hHeld ?_;simp only[Act.put,ze,zg,zf];refine zC 9 (some 243) (.pointer (some ⟨tb,2,none⟩)) hHeld ?_;simp only[Act.put,ze,zg,zf];refine zP 10 (some 244) (.slice (some ⟨gb,ob,none⟩) (NP+1) Cp2) rfl rfl (λwz hz=>by have z0:=za hz t2;unfold execOp;go_simp) hHeld ?_;simp only[Act.put,ze,zg,zf];refine zC 11 (some 245) (.pointer (some ⟨tb,3,none⟩)) hHeld ?_;simp only[Act.put,ze,zg,zf];refine zP 12 (some 246) (.int .i64 (X2:Nat)) rfl rfl (λwz hz=>by have z0:=za hz t3;unfold execOp;go_simp) hHeld ?_;simp only[Act.put,ze,zg,zf];refine zP 13 (some 247) (.pointer (some ⟨gb,ob+X2*8,none⟩)) rfl rfl (λwz _=>zJ _ _ rfl gb ob X2 (NP+1) Cp2 rfl rfl hX2n wz) hHeld ?_;simp only[Act.put,ze,zg,zf];refine zC 14 (some 248) (.pointer (some ⟨gb,ob+X2*8+1,none⟩)) hHeld ?_;simp only[Act.put,ze,zg,zf];refine zP 15 (some 249) (.int .i64 (PS:Nat)) rfl rfl (λwz hz=>by have z0:=za hz cb1;unfold execOp;go_simp) hHeld ?_;simp only[Act.put,ze,zg,zf];refine zP 16 (some 250) (.bool true) rfl rfl (λwz _=>ZR _ _ rfl PS rfl rfl wz) hHeld ?_;simp only[Act.put,ze,zg,zf];refine zC 17 (some 251) (.bool true) hHeld ?_;simp only[Act.put,ze,zg,zf];refine zC 18 (some 4) (.bool true) hHeld ?_;simp only[Act.put,ze,zg,zf];refine wpAnyH_done (by kernel_rfl) ?_ _
         go_wp2
         go_ret
         exact⟨rfl,(hB11.trans (Br.mono hB11.size)).trans (hb4.mono (by have:=hB11.size;have:=Br.size;omega))⟩
    ·rw[her]at hck9
     have hNP64:64≤NP:=by rw[HNP.out];exact h64
     have v1:decide (64≤NP)=true:=decide_eq_true hNP64;have v2:decide ((64:Int)≤((NP:Nat):Int))=true:=decide_eq_true (by omega);clear her h64
     go_wp2_with (first
      |((refine zb 54 rfl ?_)
        (refine zc (some 54) (.bool false) rfl (by rfl) (qw _ _ rfl nm [] rfl rfl false hnl _) ?_))
      |((refine zb 86 rfl ?_)
        (refine zc (some 86) (.bool false) rfl (by rfl) (qw _ _ rfl nm [] rfl rfl false hnl _) ?_))
      |((refine zb 89 rfl ?_)
        rw[←HW4.out];(refine zq (some 89) (.slice (some ⟨W4.heap.size,0,none⟩) 0 0) (W4.alloc (.cells #[] 24)) rfl (by rfl) (by kernel_rfl) ?_))
      |((refine zb 92 rfl ?_)
        (refine zq (some 92) (.slice A6 L C6) W6 rfl (by rfl) (zL _ _ rfl rfl rfl hr6) ?_))
      |((refine zb 95 rfl ?_)
        (refine zc (some 95) (.int .i64 ((Z % 2048:Nat):Int)) rfl (by rfl) (jl _ rfl Z rfl _) ?_))
      |((refine zb 96 rfl ?_)
        (refine zc (some 96) (.int .i64 (N:Nat)) rfl (by rfl) (jk _ rfl (Z % 2048) N rfl HNN.out (by omega) _) ?_))
      |((refine zb 98 rfl ?_)
        (refine zq (some 98) (.slice (some ⟨W6.heap.size,0,none⟩) 1 1) (W6.alloc (.cells #[.string ⟨#[100,101,118,105,99,101]⟩,.string (bs nm),.int .i64 (N:Nat),.int .i64 0,.slice none 0 0] 24)) rfl (by rfl) (by kernel_rfl) ?_))
      |((refine zb 99 rfl ?_)
        (refine zq (some 99) (.slice A8 (L+1) C8) W8 rfl (by rfl) (zL _ _ rfl rfl rfl hr8) ?_))
      |((refine zb 102 rfl ?_)
        rw[←HW9.out];(refine zc (some 102) (.agg #[.string (bs n.op),.string (bs n.s),.int .i64 n.n,.int .i64 n.a,.slice A8 (L+1) C8]) rfl (by rfl) (by unfold execOp;go_simp) ?_))
      |((go_at_call 8)
        refine hck9.mono ?_;rintro e W10 ⟨hb10,rfl⟩;have hS10:=(hS9.below hb10 hS9.lt).alloc (.cells #[.slice none 0 0,.int .i64 0,.slice none 0 0,.int .i64 0,.bool false] 32);have t0:=hS10.cell 0;have t1:=hS10.cell 1;have t2:=hS10.cell 2;have t3:=hS10.cell 3;have t4:=hS10.cell 4;simp only[qt,qu,qr]at t0 t1 t2 t3 t4;have tl:=hS10.lt;(clear hck9)))
     go_ret
     exact⟨rfl,(hB3.trans (((hB39.trans (hb10.mono hB39.size)).alloc (by have:=hB39.size;have:=hb10.size;omega) _).mono hB3.size))⟩
theorem Yj(x:List UInt8)(z:Int)(w:World)(hx:x.length≤maxLen)(hz:zN z):Calls Tryz.prog 5 #[.string (bs x),.int .i64 z] w λe w'=>e= .returned (.bool true)∧Below w.heap.size w w':=by
 unfold zN at hz;cases h:qS (PT x)with
 |error er=>obtain⟨ec,ek⟩:=er;exact fR x z w hx h
 |ok s =>
  by_cases h8:8≤s.devs.length
  ·exact FT x z w hx h h8
  ·by_cases hn:z<0
   ·exact fp x z w hx h (by omega) (-(z+1)).toNat hn (by omega) (by omega)
   ·exact F9 x z w hx h (by omega) z.toNat (by omega) (by omega) (by omega)
end
section
open Go.ChangeShapes Go.WideShapes Go.ChangeAt Go.RowKit
theorem kV{n:Int}(h:(Lit.int .i64 n).wf=true):zN n:=by
 simp[Lit.wf,IntKind.min,IntKind.max,IntKind.signed,IntKind.bits]at h;unfold zN;omega
variable {H:Type} {enc:TypeId×Value→H} {W:World} {fuel:Nat}
theorem GD{v:Value}{y:DataW H×List MemPlace}(hf:DataW.trod enc Tryz.prog W 0 (λ_=>true) true fuel 3 [v]=some y):∃n,v= .int .i64 n∧zN n:=by
 obtain⟨s,hs1,_,hs2⟩:=DataW.trod_int Tryz.underlying3 hf;simp only[List.cons.injEq,and_true]at hs1;exact⟨s,hs1,kV hs2⟩
end
end Go.Proofs.YtgljdaakdpgpkaaGreatDoor
