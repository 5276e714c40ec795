import Derived.Test.YtebcfkigbbolaaaGreatDoorJoint01
import Derived.Test.YtebcfkigbbolaaaGreatDoorJoint11
namespace Go.Proofs.YtebcfkigbbolaaaGreatDoor
set_option linter.unusedVariables false
set_option maxRecDepth 100000
set_option maxHeartbeats 40000000
section
open Go.ChangeShapes Go.WideShapes Go.ChangeAt Go.RowKit
theorem Ha(z:Int)(h:97≤z∧z≤102)(w:World):Calls Tryz.prog 177 #[.int .u8 z] w λe w'=>e= .returned (.int .u8 z)∧w'=w:=by
 have hz:z=97∨z=98∨z=99∨z=100∨z=101∨z=102:=by omega
 rcases hz with rfl|rfl|rfl|rfl|rfl|rfl
 all_goals
  go_enter Tryz.func177,Tryz.ntmps177
  go_wp2
  go_ret
  exact⟨rfl,rfl⟩
def vR(l:List UInt8):Nat:=l.foldl (λn c=>16*n+JE c) 0
theorem gN(x:List UInt8)(k:Nat)(h:k<x.length):vR (x.take (k+1))=16*vR (x.take k)+JE x[k]:=by
 unfold vR;rw[List.take_succ_eq_append_getElem h,List.foldl_append];rfl
theorem Gg{c:UInt8}(h:zw c=true):(48≤((c.toNat:Nat):Int)∧((c.toNat:Nat):Int)≤57∧((JE c:Nat):Int)=(c.toNat:Int)-48)∨(97≤((c.toNat:Nat):Int)∧((c.toNat:Nat):Int)≤102∧((JE c:Nat):Int)=(c.toNat:Int)-87):=by
 unfold zw zm at h;unfold JE;simp only[Bool.or_eq_true,Bool.and_eq_true,decide_eq_true_eq]at h;rcases h with⟨h1,h2⟩|⟨h1,h2⟩
 ·refine .inl ⟨by omega,by omega,?_⟩
  rw[if_neg (by omega)];omega
 ·refine .inr ⟨by omega,by omega,?_⟩
  rw[if_pos (by omega)];omega
theorem g7{c:UInt8}(h:zw c=true):JE c≤15:=by
 rcases Gg h with⟨h1,h2,h3⟩|⟨h1,h2,h3⟩<;>omega
theorem uM(x:List UInt8)(hf:∀c ∈ x,zw c=true)(k:Nat)(hk:k≤2)(h2:x.length=2):vR (x.take k)≤255∧(k<2→vR (x.take k)≤15):=by
 match x,h2 with
 | [a,b],_ =>
   have ha:=g7 (hf a (by simp));have hb:=g7 (hf b (by simp));have :k=0∨k=1∨k=2:=by omega
   rcases this with rfl|rfl|rfl
   ·simp[vR]
   ·simp[vR];omega
   ·simp[vR];omega
theorem fF(x:List UInt8)(w:World)(h2:x.length=2)(hf:∀c ∈ x,zw c=true):
 Calls Tryz.prog 160 #[.string (bs x),.int .i64 16,.int .i64 8] w λe w'=>e= .returned (.tuple #[.int .u64 (vR x:Nat),.nilIface])∧Below w.heap.size w w':=by
 have hsz:=zi x;obtain⟨W1,cap,hconv,hcell,hbel⟩:=KK w x;have hxl:=uM x hf;have HS:Hid ((bs x).size=x.length):=hsz;have hne:(x== [])=false:=by match x,h2 with | [a,b],_=>rfl
 have hot:=zx x;rw[h2]at hsz;rw[hsz]at hconv;have HX:Hid (x.length=2):=h2;clear hsz h2;go_enter Tryz.func160,Tryz.ntmps160
 go_wp2
 go_loop [12,13,101] (λu n i=>∃k:Nat,k≤2∧u= .bool false∧i= .int .i64 (k:Nat)∧n= .int .u64 (vR (x.take k):Nat)) (λ_ _ i=>2-(intOf i).toNat)
 case atStart=>exact⟨0,Nat.zero_le _,rfl,rfl,rfl⟩
 case round =>
  obtain⟨k,hk,rfl,rfl,rfl⟩:=hrel;obtain⟨hv2,hv1'⟩:=hxl k hk HX.out
  obtain⟨V,hV⟩:∃V,V=vR (x.take k):=⟨_,rfl⟩
  rw[←hV]at hv2 hv1' ⊢;by_cases hlt:k<2
  ·have hlt':k<x.length:=by rw[HX.out];exact hlt
   have hc:=hcell k hlt';have hvb:=hv1' hlt;have hvt:=gN x k hlt';rw[←hV]at hvt;have hhx:=Gg (hf _ (List.getElem_mem hlt'));have HV:Hid (((vR (x.take (k+1)):Nat):Int)=16*(V:Int)+((JE x[k]:Nat):Int)):=by show((vR (x.take (k+1)):Nat):Int)=_;rw[hvt];omega
   have hlt2:((k:Nat):Int)<2:=by omega
   have hvi:(V:Int)≤15:=by omega
   clear hvt hV hv2 hv1' hcell hconv hxl hbel hf;generalize ((JE x[k]:Nat):Int)=y at hhx HV;generalize ((x[k].toNat:Nat):Int)=z at hc hhx HV;have hv0:(0:Int)≤(V:Int):=by omega
   generalize (V:Int)=Z at hvi hv0 HV ⊢;clear hvb;rcases hhx with⟨g1,g2,g3⟩|⟨g1,g2,g3⟩
   ·have e1:(z==95)=false:=by simp;omega
    subst g3
    go_wp2
    go_round
    case rel=>exact⟨k+1,by omega,rfl,by go_num,by rw[HV.out];go_num⟩
    case measure=>simp[intOf];omega
   ·have e1:(z==95)=false:=by simp;omega
    have hlow:=Ha z ⟨g1,g2⟩;subst g3
    go_wp2_with (first
     |((go_at_call 177)
       refine(hlow _).mono ?_;(rintro e w2 ⟨rfl,rfl⟩)))
    go_round
    case rel=>exact⟨k+1,by omega,rfl,by go_num,by rw[HV.out];go_num⟩
    case measure=>simp[intOf];omega
  ·have hlt2:¬((k:Nat):Int)<2:=by omega
   have hfull:x.take k=x:=List.take_of_length_le (by rw[HX.out];omega);rw[hfull]at hV;have HV:Hid (V=vR x):=hV;clear hfull hV hcell hconv hxl
   go_wp2
   go_ret2
   exact⟨by rw[HV.out];rfl,hbel⟩
theorem dv(x:List UInt8)(w:World)(h2:x.length=2)(hf:∀c ∈ x,zw c=true):
 Calls Tryz.prog 143 #[.string (bs x),.int .i64 16,.int .i64 8] w λe w'=>e= .returned (.tuple #[.int .u64 (vR x:Nat),.nilIface])∧Below w.heap.size w w':=by
 have ha:=fF x w h2 hf;go_enter Tryz.func143,Tryz.ntmps143
 go_wp2_with (go_at_call 160;refine ha.mono ?_;rintro e w' ⟨rfl,hb⟩)
 go_ret2
 exact⟨rfl,hb⟩
theorem Yx:∀(i:Nat) (x:List UInt8),2*i+1<x.length→(vZ x)[i]?=some (UInt8.ofNat (vR ((x.drop (2*i)).take 2)))
 |0,a::b::r,_=>by simp[vZ,vR]
 |i+1,a::b::r,h=>by
  have:=Yx i r (by simp at h;omega);simp only[vZ,List.getElem?_cons_succ];rw[this,show 2*(i+1)=2*i+1+1 by omega];rfl
 |0,[],h=>by simp at h
 |0,[_],h=>by simp at h
 |i+1,[],h=>by simp at h
 |i+1,[_],h=>by simp at h
theorem Ya:∀(x:List UInt8),(vZ x).length=x.length / 2
 |a::b::r=>by simp[vZ,Ya r];omega
 | []=>rfl
 | [_]=>by simp[vZ]
theorem zz{p:Prop}(h:p):Hid p:=h
theorem uU(x:List UInt8)(w:World)(hl:x.length=64)(hf:∀c ∈ x,zw c=true):Calls Tryz.prog 119 #[.string (bs x)] w λe w'=>∃v,e= .returned v∧zai w w' v (vZ x)∧Below w.heap.size w w':=by
 have hsz:=zi x;rw[hl]at hsz;obtain⟨W1,hH1,hb1,hmk⟩:=fN 32 (by decide) w;have hget:∀i,i<32→(vZ x)[i]?=some (UInt8.ofNat (vR ((x.drop (2*i)).take 2))):=λi hi=>Yx i x (by omega)
 have hulen:(vZ x).length=32:=by rw[Ya,hl]
 have hsub:∀i,i<32→((x.drop (2*i)).take 2).length=2∧∀c ∈ (x.drop (2*i)).take 2,zw c=true:=λi hi=>⟨by simp;omega,λc hc=>hf c (List.mem_of_mem_drop (List.mem_of_mem_take hc))⟩
 have hlt:∀i,i<32→vR ((x.drop (2*i)).take 2)≤255:=λi hi=>by
  have:=(uM ((x.drop (2*i)).take 2) (hsub i hi).2 2 (Nat.le_refl _) (hsub i hi).1).1
  rwa [List.take_of_length_le (by rw[(hsub i hi).1];exact Nat.le_refl _)]at this
 have HX:Hid (x.length=64):=hl;have HG:Hid (∀i,i<32→(vZ x)[i]?=some (UInt8.ofNat (vR ((x.drop (2*i)).take 2)))):=hget;have HU:Hid ((vZ x).length=32):=hulen;have HSu:Hid (∀i,i<32→((x.drop (2*i)).take 2).length=2∧∀c ∈ (x.drop (2*i)).take 2,zw c=true):=hsub;have HLt:Hid (∀i,i<32→vR ((x.drop (2*i)).take 2)≤255):=hlt;have h0:ze W1 w.heap.size 5 (qY .u8 32 λj=>if j<0 then vR ((x.drop (2*j)).take 2)else 0):=by simpa using hH1
 clear hl hget hulen hsub hlt hf hH1;go_enter Tryz.func119,Tryz.ntmps119
 go_wp2_with (first
  |((refine zf 10 rfl ?_)
    (refine j1 (some 10) (.slice (some ⟨w.heap.size,0,none⟩) 32 32) W1 rfl (by rfl) (hmk _ _ _ _ rfl rfl rfl) ?_)))
 go_loopw [13] (λz wr=>∃i:Nat,z= .int .i64 (i:Nat)∧i≤32∧ze wr w.heap.size 5 (qY .u8 32 λj=>if j<i then vR ((x.drop (2*j)).take 2)else 0)∧Below w.heap.size w wr) (λz _=>32-(intOf z).toNat)
 case atStart=>exact⟨0,rfl,by omega,h0,hb1⟩
 case round =>
  obtain⟨i,rfl,hi,hH,hB⟩:=hrel;clear h0 hb1 hmk;by_cases hlt:i<32
  ·have hy:=HSu.out i hlt
   have hK:=HLt.out i hlt;have hex:(bs x).extract (2*i) (2*i+2)=bs ((x.drop (2*i)).take 2):=by rw[qK,Nat.add_sub_cancel_left]
   have hpu:=λW=>dv _ W hy.1 hy.2
   have HN:Hid (vR ((x.drop (2*i)).take 2)=vR ((x.drop (2*i)).take 2)):=rfl;have hli:(i:Int)<32:=by omega
   have hset:=λW (h:ze W w.heap.size 5 (qY .u8 32 λj=>if j<i then vR ((x.drop (2*j)).take 2)else 0))=>h.set i (vR ((x.drop (2*i)).take 2))
   have hupd:qY .u8 32 (upd (λj=>if j<i then vR ((x.drop (2*j)).take 2)else 0) i (vR ((x.drop (2*i)).take 2)))=qY .u8 32 (λj=>if j<i+1 then vR ((x.drop (2*j)).take 2)else 0):=by
    refine YF _ _ _ _ (λj hj=>?_);unfold upd;by_cases e:j=i
    ·subst e;rw[if_pos rfl,if_pos (by omega)]
    ·rw[if_neg e]
     show(if j<i then vR ((x.drop (2*j)).take 2)else 0)=_;by_cases e2:j<i
     ·rw[if_pos e2,if_pos (by omega)]
     ·rw[if_neg e2,if_neg (by omega)]
   have HU2:=zz hupd;have HSe:=zz hset;have cc:=hH.num i hlt;simp only[if_neg (Nat.lt_irrefl i)]at cc;have hlg:=hH.lt;generalize (x.drop (2*i)).take 2=y at hex hpu hK HSe HU2 cc;generalize vR y=K at hpu hK HSe HU2;have hKi:((K:Nat):Int)≤255:=by omega
   have hKi0:(0:Int)≤((K:Nat):Int):=by omega
   clear hupd hset hy HN
   go_wp2_with (first
    |((go_at_call 143)
      refine(hpu _).mono ?_;rintro e w2 ⟨rfl,hb2⟩;have cc2:=za hb2 cc;(have fr2:=(hH.below hb2 hlg).free i)))
   go_roundw
   case rel=>exact⟨i+1,by go_num,by omega,by rw[←HU2.out];exact HSe.out _ (hH.below hb2 hlg),(hB.trans (hb2.mono hB.size)).setCell (p:=⟨w.heap.size,i,none⟩) (Nat.le_refl _) _⟩
   case measure=>simp[intOf];omega
  ·obtain rfl:i=32:=by omega
   go_wp2
   go_ret
   refine⟨.slice (some ⟨w.heap.size,0,none⟩) 32 32,rfl,⟨some ⟨w.heap.size,0,none⟩,32,by rw[HU.out],by rw[HU.out];exact Nat.le_refl _,by unfold maxLen;omega,?_⟩,hB⟩;refine .inr ⟨w.heap.size,0,rfl,hH.lt,Nat.le_refl _,λj hj=>?_⟩;rw[HU.out]at hj;have:=hH.num j hj;rw[Nat.zero_add,this,if_pos hj];have hg:=HG.out j hj;have hk:=HLt.out j hj;rw[List.getElem?_eq_getElem (by rw[HU.out];exact hj)]at hg;injection hg with hg
   rw[hg]
   congr 2
   simp;omega
end
section
open Go.ChangeShapes Go.WideShapes Go.ChangeAt Go.RowKit Go.MapKept
variable {E:Nat→Prop}
def gm(E:Nat→Prop)(w:World)(cb:Nat)(V:CV)(R:Except Er Ck)(e:Ending)(w':World):Prop:=vM (V.own cb) w w'∧match R with
 | .error (ec,ek)=>e= .panicked (YE ec ek)
 | .ok c'=>e= .returned (.tuple #[])∧∃V',zM (λg=>E g∨w.heap.size≤g) w' cb V' c'∧je cb V w V' w'
theorem yx{o:Oper}{a:Act}(x:Operand)(k:Int)(ho:o.op= .binOp .eql 3 x (.const (.int .i64 k)) 3)(K:Int)(hx:a.eval x= .int .i64 K)(b:Bool)(hb:(K==k)=b)(w:World):(execOp a.eval o).run Tryz.prog w= .ok (.value (.bool b)) w:=by
 unfold execOp;simp only[ho,hx];subst hb;go_simp
theorem F0{w:World}{cb:Nat}{V:CV}{c:Ck}(h:zM E w cb V c)(n:Nd)(A:Option Addr)(L C:Nat)(hn:yz c.names c.parts):Calls Tryz.prog 85 #[.pointer (some ⟨cb,0,none⟩),.agg (zR n (.slice A L C))] w (gm E w cb V (yJ c n)):=by
 obtain⟨W1,hW1⟩:∃W1,W1=w.alloc (.cells #[.string (bs n.op),.string (bs n.s),.int .i64 n.n,.int .i64 n.a,.slice A L C] 24):=⟨_,rfl⟩
 have hb1:Below w.heap.size w W1:=by rw[hW1];exact zd w _
 have N1:ze W1 w.heap.size 24 #[.string (bs n.op),.string (bs n.s),.int .i64 n.n,.int .i64 n.a,.slice A L C]:=by rw[hW1];exact ze.new w _ _
 have h1:zM E W1 cb V c:=h.keep hb1;have HW:=zz hW1;have lcb:=h.has.lt;have c3:=h1.has.cell 3;have nc3:=N1.cell 3;simp only[jg,jd,jf]at c3 nc3;clear hW1;cases hx:c.expo with
 |some x0 =>
  have HR:=zz (show yJ c n= .error (138,n.a) by unfold yJ;rw[hx];rfl)
  have hxe:(jI c.expo== -1)=false:=by
   rw[hx,beq_eq_false_iff_ne];show((x0:Nat):Int)≠ -1;omega
  unfold zR;go_enter Tryz.func85,Tryz.ntmps85
  go_wp2
  rw[←HW.out];refine wp_region_held_drew (S:=λwz=>Below W1.heap.size W1 wz) (by kernel_rfl) ((Below.refl _ W1).drew) (λhHeld=>?_);refine zS 0 (some 4) (.pointer (some ⟨cb,0,none⟩)) hHeld ?_;simp only[Act.put,zk,zj,zl];refine zS 1 (some 5) (.pointer (some ⟨cb,0,none⟩)) hHeld ?_;simp only[Act.put,zk,zj,zl];refine zS 2 (some 6) (.pointer (some ⟨cb,0,none⟩)) hHeld ?_;simp only[Act.put,zk,zj,zl];refine zS 3 (some 7) (.pointer (some ⟨cb,3,none⟩)) hHeld ?_;simp only[Act.put,zk,zj,zl];refine qq 4 (some 8) (.int .i64 (jI c.expo)) rfl rfl (λwz hz=>by have z0:=za hz c3;unfold execOp;go_simp) hHeld ?_;simp only[Act.put,zk,zj,zl];refine qq 5 (some 9) (.bool false) rfl rfl (λwz _=>yx _ (-1) rfl (jI c.expo) rfl false hxe wz) hHeld ?_;simp only[Act.put,zk,zj,zl];refine zS 6 (some 10) (.pointer (some ⟨w.heap.size,3,none⟩)) hHeld ?_;simp only[Act.put,zk,zj,zl];refine qq 7 (some 11) (.int .i64 n.a) rfl rfl (λwz hz=>by have z0:=za hz nc3;unfold execOp;go_simp) hHeld ?_;simp only[Act.put,zk,zj,zl];refine qG 8 (some 12) 86 #[.bool false,.int .i64 138,.int .i64 n.a] (by kernel_rfl) rfl rfl (by rfl) (by kernel_rfl) (qO 138 n.a W1.drew) ?_;rintro e w5 ⟨rfl,rfl⟩;refine .inr ⟨_,rfl,?_⟩;exact⟨rfl,(vM.of hb1).drew,by rw[HR.out];rfl⟩
 |none =>
  have hxe:(jI c.expo== -1)=true:=by rw[hx];rfl
  have hk2:∀w2:World,Below W1.heap.size W1 w2→Calls Tryz.prog 117 #[.pointer (some ⟨cb,0,none⟩),.agg (zR n (.slice A L C)),.slice (some ⟨w2.heap.size,0,none⟩) 2 2] (w2.alloc (.cells #[.string ⟨#[100,101,118,105,99,101]⟩,.string ⟨#[118,111,108,117,109,101]⟩] 9)) (zbe (w2.alloc (.cells #[.string ⟨#[100,101,118,105,99,101]⟩,.string ⟨#[118,111,108,117,109,101]⟩] 9)) V cb (jj c.names n [zc,zp])):=λw2 hb=>Xs ((h1.keep hb).alloc _) n A L C [zc,zp] _ (.inr ⟨w2.heap.size,rfl,ze.new_at rfl⟩) (by simp)
  have hR:yJ c n=match jj c.names n [zc,zp]with | .error e=> .error e| .ok m=> .ok { c with expo:=some m.node,ro:=decide (n.n=1)||(qg c.parts).getD m.node false,eat:=n.a }:=by unfold yJ;rw[hx];rfl
  clear hx;cases hK:jj c.names n [zc,zp]with
  |error er =>
   obtain⟨ec,ek⟩:=er;rw[hK]at hk2 hR;have HR:=zz hR;clear hK hR;unfold zR at hk2 ⊢;go_enter Tryz.func85,Tryz.ntmps85
   go_wp2
   rw[←HW.out];refine wp_region_held_drew (S:=λwz=>Below W1.heap.size W1 wz) (by kernel_rfl) ((Below.refl _ W1).drew) (λhHeld=>?_);refine zS 0 (some 4) (.pointer (some ⟨cb,0,none⟩)) hHeld ?_;simp only[Act.put,zk,zj,zl];refine zS 1 (some 5) (.pointer (some ⟨cb,0,none⟩)) hHeld ?_;simp only[Act.put,zk,zj,zl];refine zS 2 (some 6) (.pointer (some ⟨cb,0,none⟩)) hHeld ?_;simp only[Act.put,zk,zj,zl];refine zS 3 (some 7) (.pointer (some ⟨cb,3,none⟩)) hHeld ?_;simp only[Act.put,zk,zj,zl];refine qq 4 (some 8) (.int .i64 (jI c.expo)) rfl rfl (λwz hz=>by have z0:=za hz c3;unfold execOp;go_simp) hHeld ?_;simp only[Act.put,zk,zj,zl];refine qq 5 (some 9) (.bool true) rfl rfl (λwz _=>yx _ (-1) rfl (jI c.expo) rfl true hxe wz) hHeld ?_;simp only[Act.put,zk,zj,zl];refine zS 6 (some 10) (.pointer (some ⟨w.heap.size,3,none⟩)) hHeld ?_;simp only[Act.put,zk,zj,zl];refine qq 7 (some 11) (.int .i64 n.a) rfl rfl (λwz hz=>by have z0:=za hz nc3;unfold execOp;go_simp) hHeld ?_;simp only[Act.put,zk,zj,zl];refine qG 8 (some 12) 86 #[.bool true,.int .i64 138,.int .i64 n.a] (by kernel_rfl) rfl rfl (by rfl) (by kernel_rfl) (qa 138 n.a W1.drew) ?_;rintro e w5 ⟨rfl,rfl⟩;refine .inl ⟨_,rfl,hHeld,?_⟩;simp only[Act.put,zk,zj,zl];refine wpAnyH_done (by kernel_rfl) ?_ _;have hb2:Below W1.heap.size W1 W1.drew:=zu (Below.refl _ W1);have hkn:=hk2 _ hb2;have N2:=zq N1;clear hHeld hk2 c3 nc3;generalize W1.drew=W2 at *;have a0:=N2.cell 0;have a1:=N2.cell 1;have a2:=N2.cell 2;have a3:=N2.cell 3;have a4:=N2.cell 4;have al:=N2.lt;simp only[jg,jd,jf]at a0 a1 a2 a3 a4
   go_wp2_with (first
    |((go_at_call 117)
      refine hkn.mono ?_;(rintro e w5 ⟨hb5,rfl⟩)))
   exact⟨rfl,(vM.of ((hb1.trans (hb2.mono hb1.size)).trans ((zd W2 _).mono (Nat.le_trans hb1.size hb2.size)))).trans (.of hb5),by rw[HR.out]⟩
  |ok m =>
   have hnd:=Qg hn hK;rw[hK]at hk2 hR;have HR:=zz hR;clear hK hR;unfold zR at hk2 ⊢;go_enter Tryz.func85,Tryz.ntmps85
   go_wp2
   rw[←HW.out];refine wp_region_held_drew (S:=λwz=>Below W1.heap.size W1 wz) (by kernel_rfl) ((Below.refl _ W1).drew) (λhHeld=>?_);refine zS 0 (some 4) (.pointer (some ⟨cb,0,none⟩)) hHeld ?_;simp only[Act.put,zk,zj,zl];refine zS 1 (some 5) (.pointer (some ⟨cb,0,none⟩)) hHeld ?_;simp only[Act.put,zk,zj,zl];refine zS 2 (some 6) (.pointer (some ⟨cb,0,none⟩)) hHeld ?_;simp only[Act.put,zk,zj,zl];refine zS 3 (some 7) (.pointer (some ⟨cb,3,none⟩)) hHeld ?_;simp only[Act.put,zk,zj,zl];refine qq 4 (some 8) (.int .i64 (jI c.expo)) rfl rfl (λwz hz=>by have z0:=za hz c3;unfold execOp;go_simp) hHeld ?_;simp only[Act.put,zk,zj,zl];refine qq 5 (some 9) (.bool true) rfl rfl (λwz _=>yx _ (-1) rfl (jI c.expo) rfl true hxe wz) hHeld ?_;simp only[Act.put,zk,zj,zl];refine zS 6 (some 10) (.pointer (some ⟨w.heap.size,3,none⟩)) hHeld ?_;simp only[Act.put,zk,zj,zl];refine qq 7 (some 11) (.int .i64 n.a) rfl rfl (λwz hz=>by have z0:=za hz nc3;unfold execOp;go_simp) hHeld ?_;simp only[Act.put,zk,zj,zl];refine qG 8 (some 12) 86 #[.bool true,.int .i64 138,.int .i64 n.a] (by kernel_rfl) rfl rfl (by rfl) (by kernel_rfl) (qa 138 n.a W1.drew) ?_;rintro e w5 ⟨rfl,rfl⟩;refine .inl ⟨_,rfl,hHeld,?_⟩;simp only[Act.put,zk,zj,zl];refine wpAnyH_done (by kernel_rfl) ?_ _;have hb2:Below W1.heap.size W1 W1.drew:=zu (Below.refl _ W1);have hkn:=hk2 _ hb2;have N2:=zq N1;clear hHeld hk2 c3 nc3;generalize W1.drew=W2 at *;have a0:=N2.cell 0;have a1:=N2.cell 1;have a2:=N2.cell 2;have a3:=N2.cell 3;have a4:=N2.cell 4;have al:=N2.lt;simp only[jg,jd,jf]at a0 a1 a2 a3 a4
   obtain⟨K,hKm⟩:∃K,K=m.node:=⟨_,rfl⟩
   have HKm:=zz hKm;have hb12:Below w.heap.size w W2:=hb1.trans (hb2.mono hb1.size);have HB:=zz (λw5 (hb5:Below (W2.alloc (.cells #[.string ⟨#[100,101,118,105,99,101]⟩,.string ⟨#[118,111,108,117,109,101]⟩] 9)).heap.size (W2.alloc (.cells #[.string ⟨#[100,101,118,105,99,101]⟩,.string ⟨#[118,111,108,117,109,101]⟩] 9)) w5)=>(hb12.trans ((zd W2 (.cells #[.string ⟨#[100,101,118,105,99,101]⟩,.string ⟨#[118,111,108,117,109,101]⟩] 9)).mono hb12.size)).trans (hb5.mono (by have:=hb12.size;simp;omega)));clear hKm
   go_wp2_with (first
    |((go_at_call 117)
      refine hkn.mono ?_;rintro e w5 ⟨hb5,Am,Cm,rfl,hm1,hm2,hbp⟩;unfold X7;rw[←HKm.out];have hb05:=HB.out w5 hb5;have H5:=h.keep hb05;have N5:=N1.below (show Below W1.heap.size W1 w5 from(hb2.trans ((zd W2 (.cells #[.string ⟨#[100,101,118,105,99,101]⟩,.string ⟨#[118,111,108,117,109,101]⟩] 9)).mono hb2.size)).trans (hb5.mono (by have:=hb2.size;simp;omega))) N1.lt;have q3:=H5.has.cell 3;have f3:=H5.has.free 3;have l3:=H5.has.lt;(simp only[jg,jd,jf]at q3))
    |((refine zf 18 rfl ?_)
      (refine zb (some 18) (.int .i64 (K:Nat)) rfl (by rfl) (by kernel_rfl) ?_)))
   obtain⟨H3,S3⟩:=H5.put (c':={ c with expo:=some K }) 3 (.int .i64 (K:Nat)) (H5.has.putP 3 _) rfl rfl rfl;have S03:=(je.of (cb:=cb) (V:=V) hb05).trans S3;have N3:=N5.other (p:=⟨cb,3,none⟩) (by show w.heap.size≠cb;omega) (.int .i64 (K:Nat));have hKP':K<c.parts.length:=by rw[HKm.out];exact hnd.1
   obtain⟨gb,ob,Cb,evb,hCb1,hCb2,hgb,hOn⟩:=H3.vo (by show 0<c.parts.length;omega);generalize w5.setCell ⟨cb,3,none⟩ (.int .i64 (K:Nat))=W3 at *;have q2:=N3.cell 2;have q6:=H3.has.cell 6;have q3:=H3.has.cell 3;have qB:=hOn K (by rw[vD];exact hKP');simp only[List.getElem?_toArray,List.getElem?_cons_zero,List.getElem?_cons_succ,evb]at q2 q3 q6;change W3.cell? ⟨cb,3,none⟩=some (.int .i64 (K:Nat))at q3;change W3.cell? ⟨gb,ob+K,none⟩=some (.bool ((qg c.parts).getD K false))at qB
   obtain⟨B,hB⟩:∃B,B=(qg c.parts).getD K false:=⟨_,rfl⟩
   rw[←hB]at qB
   obtain⟨NP,hNP⟩:∃NP,NP=c.parts.length:=⟨_,rfl⟩
   have hKP:K<NP:=by rw[hNP];exact hKP'
   change W3.cell? ⟨cb,6,none⟩=some (.slice (some ⟨gb,ob,none⟩) c.parts.length Cb)at q6;rw[←hNP]at q6;have HBo:=zz hB;clear hB hNP hKP' f3 l3 H5 hbp hm1 hm2 hb5 hOn hCb1 hCb2 evb a0 a1 a2 a3 a4 al hkn N5 N1 N2 h1 hb12 hb2 hb1 hb05 S3;by_cases hn1:n.n=1
   ·have HRO:=zz (show({ c with expo:=some m.node,ro:=decide (n.n=1)||(qg c.parts).getD m.node false,eat:=n.a }:Ck)= { c with expo:=some K,ro:=true,eat:=n.a } by rw[HKm.out,decide_eq_true hn1,Bool.true_or])
    have hn1:(n.n==1)=true:=by rw[hn1];rfl
    go_wp2
    refine vu (S:=λwz=>Below W3.heap.size W3 wz) 20 (by kernel_rfl) ((Below.refl _ W3).drew) (λhHeld=>?_);refine vI 0 (some 22) (.pointer (some ⟨cb,0,none⟩)) hHeld ?_;simp only[Act.put,zk,zj,zl];refine vI 1 (some 23) (.pointer (some ⟨w.heap.size,2,none⟩)) hHeld ?_;simp only[Act.put,zk,zj,zl];refine vK 2 (some 24) (.int .i64 n.n) rfl rfl (λwz hz=>by have z0:=za hz q2;unfold execOp;go_simp) hHeld ?_;simp only[Act.put,zk,zj,zl];refine vK 3 (some 25) (.bool true) rfl rfl (λwz _=>yx _ 1 rfl n.n rfl true hn1 wz) hHeld ?_;simp only[Act.put,zk,zj,zl];refine vI 4 (some 26) (.bool true) hHeld ?_;simp only[Act.put,zk,zj,zl];refine Zv 5 (some 27) rfl rfl (by decide) (by kernel_rfl) (by kernel_rfl) (by kernel_rfl) (by kernel_rfl) (λ_ _ _ h=>h) (by rfl) hHeld ?_;simp only[Act.put,zk,zj,zl];refine Zv 6 (some 28) rfl rfl (by decide) (by kernel_rfl) (by kernel_rfl) (by kernel_rfl) (by kernel_rfl) (λ_ _ _ h=>h) (by rfl) hHeld ?_;simp only[Act.put,zk,zj,zl];refine Zv 7 (some 29) rfl rfl (by decide) (by kernel_rfl) (by kernel_rfl) (by kernel_rfl) (by kernel_rfl) (λ_ _ _ h=>h) (by rfl) hHeld ?_;simp only[Act.put,zk,zj,zl];refine Zv 8 (some 30) rfl rfl (by decide) (by kernel_rfl) (by kernel_rfl) (by kernel_rfl) (by kernel_rfl) (λ_ _ _ h=>h) (by rfl) hHeld ?_;simp only[Act.put,zk,zj,zl];refine Zv 9 (some 31) rfl rfl (by decide) (by kernel_rfl) (by kernel_rfl) (by kernel_rfl) (by kernel_rfl) (λ_ _ _ h=>h) (by rfl) hHeld ?_;simp only[Act.put,zk,zj,zl];refine Zv 10 (some 32) rfl rfl (by decide) (by kernel_rfl) (by kernel_rfl) (by kernel_rfl) (by kernel_rfl) (λ_ _ _ h=>h) (by rfl) hHeld ?_;simp only[Act.put,zk,zj,zl];refine Zv 11 (some 33) rfl rfl (by decide) (by kernel_rfl) (by kernel_rfl) (by kernel_rfl) (by kernel_rfl) (λ_ _ _ h=>h) (by rfl) hHeld ?_;simp only[Act.put,zk,zj,zl];refine Zv 12 (some 34) rfl rfl (by decide) (by kernel_rfl) (by kernel_rfl) (by kernel_rfl) (by kernel_rfl) (λ_ _ _ h=>h) (by rfl) hHeld ?_;simp only[Act.put,zk,zj,zl];refine Zv 13 (some 35) rfl rfl (by decide) (by kernel_rfl) (by kernel_rfl) (by kernel_rfl) (by kernel_rfl) (λ_ _ _ h=>h) (by rfl) hHeld ?_;simp only[Act.put,zk,zj,zl];refine Zv 14 (some 36) rfl rfl (by decide) (by kernel_rfl) (by kernel_rfl) (by kernel_rfl) (by kernel_rfl) (λ_ _ _ h=>h) (by rfl) hHeld ?_;simp only[Act.put,zk,zj,zl];refine Zv 15 (some 37) rfl rfl (by decide) (by kernel_rfl) (by kernel_rfl) (by kernel_rfl) (by kernel_rfl) (λ_ _ _ h=>h) (by rfl) hHeld ?_;simp only[Act.put,zk,zj,zl];refine vK 16 (some 38) (.bool true) rfl rfl (λ_ _=>by kernel_rfl) hHeld ?_;simp only[Act.put,zk,zj,zl];refine jp 17 (some 39) (.pointer (some ⟨cb,0,none⟩)) W3.drew (by kernel_rfl) rfl rfl (by rfl) rfl hHeld ?_;simp only[Act.put,zk,zj,zl];refine jp 18 (some 40) (.pointer (some ⟨cb,0,none⟩)) W3.drew (by kernel_rfl) rfl rfl (by rfl) rfl hHeld ?_;simp only[Act.put,zk,zj,zl];refine jp 19 (some 41) (.pointer (some ⟨cb,4,none⟩)) W3.drew (by kernel_rfl) rfl rfl (by rfl) rfl hHeld ?_;simp only[Act.put,zk,zj,zl];have H3d:=H3.keep (zu (Below.refl _ W3));have q4:=H3d.has.cell 4;have f4:=H3d.has.free 4;have l4:=H3d.has.lt;refine jA 20 none (W3.drew.setCell ⟨cb,4,none⟩ (.bool true)) (by kernel_rfl) rfl rfl (by rfl) (by unfold execOp;go_simp) (by kernel_rfl) ?_;simp only[Act.put];obtain⟨H4,S4⟩:=H3d.put (c':={ c with expo:=some K,ro:=true }) 4 (.bool true) (H3d.has.putP 4 _) rfl rfl rfl;have N4:=(zq N3).other (p:=⟨cb,4,none⟩) (by show w.heap.size≠cb;omega) (.bool true);have S34:je cb V W3 V (W3.drew.setCell ⟨cb,4,none⟩ (.bool true)):=(je.of (zu (Below.refl _ W3))).trans S4;generalize W3.drew.setCell ⟨cb,4,none⟩ (.bool true)=W4 at *;have a3:=N4.cell 3;have al:=N4.lt;have b7:=H4.has.cell 7;have e7:=H4.has.free 7;have bl:=H4.has.lt;simp only[jg,jd,jf]at a3 b7;clear q2 q3 q4 q6 qB f4 l4 H3d hHeld S4
    go_wp2
    go_end0
    obtain⟨H5,S5⟩:=H4.put (c':={ c with expo:=some K,ro:=true,eat:=n.a }) 7 (.int .i64 n.a) (H4.has.putP 7 _) rfl rfl rfl;have S05:=(S03.trans S34).trans S5;refine⟨S05.only,?_⟩;rw[HR.out];refine⟨rfl,V,?_,S05⟩;rw[HRO.out];exact H5.mono (λ_ _ _ he=> .inl he)
   ·have HRO:=zz (show({ c with expo:=some m.node,ro:=decide (n.n=1)||(qg c.parts).getD m.node false,eat:=n.a }:Ck)= { c with expo:=some K,ro:=B,eat:=n.a } by rw[HBo.out,HKm.out,decide_eq_false hn1,Bool.false_or])
    have hn1:(n.n==1)=false:=by rw[beq_eq_false_iff_ne];exact hn1
    go_wp2
    refine vu (S:=λwz=>Below W3.heap.size W3 wz) 20 (by kernel_rfl) ((Below.refl _ W3).drew) (λhHeld=>?_);refine vI 0 (some 22) (.pointer (some ⟨cb,0,none⟩)) hHeld ?_;simp only[Act.put,zk,zj,zl];refine vI 1 (some 23) (.pointer (some ⟨w.heap.size,2,none⟩)) hHeld ?_;simp only[Act.put,zk,zj,zl];refine vK 2 (some 24) (.int .i64 n.n) rfl rfl (λwz hz=>by have z0:=za hz q2;unfold execOp;go_simp) hHeld ?_;simp only[Act.put,zk,zj,zl];refine vK 3 (some 25) (.bool false) rfl rfl (λwz _=>yx _ 1 rfl n.n rfl false hn1 wz) hHeld ?_;simp only[Act.put,zk,zj,zl];refine vI 4 (some 26) (.bool false) hHeld ?_;simp only[Act.put,zk,zj,zl];refine vI 5 (some 27) (.pointer (some ⟨cb,0,none⟩)) hHeld ?_;simp only[Act.put,zk,zj,zl];refine vI 6 (some 28) (.pointer (some ⟨cb,0,none⟩)) hHeld ?_;simp only[Act.put,zk,zj,zl];refine vI 7 (some 29) (.pointer (some ⟨cb,6,none⟩)) hHeld ?_;simp only[Act.put,zk,zj,zl];refine vK 8 (some 30) (.slice (some ⟨gb,ob,none⟩) NP Cb) rfl rfl (λwz hz=>by have z0:=za hz q6;unfold execOp;go_simp) hHeld ?_;simp only[Act.put,zk,zj,zl];refine vI 9 (some 31) (.pointer (some ⟨cb,0,none⟩)) hHeld ?_;simp only[Act.put,zk,zj,zl];refine vI 10 (some 32) (.pointer (some ⟨cb,0,none⟩)) hHeld ?_;simp only[Act.put,zk,zj,zl];refine vI 11 (some 33) (.pointer (some ⟨cb,0,none⟩)) hHeld ?_;simp only[Act.put,zk,zj,zl];refine vI 12 (some 34) (.pointer (some ⟨cb,3,none⟩)) hHeld ?_;simp only[Act.put,zk,zj,zl];refine vK 13 (some 35) (.int .i64 (K:Nat)) rfl rfl (λwz hz=>by have z0:=za hz q3;unfold execOp;go_simp) hHeld ?_;simp only[Act.put,zk,zj,zl];refine vK 14 (some 36) (.pointer (some ⟨gb,ob+K,none⟩)) rfl rfl (λwz _=>QX _ _ rfl gb ob K NP Cb rfl rfl hKP wz) hHeld ?_;simp only[Act.put,zk,zj,zl];refine vK 15 (some 37) (.bool B) rfl rfl (λwz hz=>by have z0:=za hz qB;unfold execOp;go_simp) hHeld ?_;simp only[Act.put,zk,zj,zl];refine vK 16 (some 38) (.bool B) rfl rfl (λ_ _=>by kernel_rfl) hHeld ?_;simp only[Act.put,zk,zj,zl];refine jp 17 (some 39) (.pointer (some ⟨cb,0,none⟩)) W3.drew (by kernel_rfl) rfl rfl (by rfl) rfl hHeld ?_;simp only[Act.put,zk,zj,zl];refine jp 18 (some 40) (.pointer (some ⟨cb,0,none⟩)) W3.drew (by kernel_rfl) rfl rfl (by rfl) rfl hHeld ?_;simp only[Act.put,zk,zj,zl];refine jp 19 (some 41) (.pointer (some ⟨cb,4,none⟩)) W3.drew (by kernel_rfl) rfl rfl (by rfl) rfl hHeld ?_;simp only[Act.put,zk,zj,zl];have H3d:=H3.keep (zu (Below.refl _ W3));have q4:=H3d.has.cell 4;have f4:=H3d.has.free 4;have l4:=H3d.has.lt;refine jA 20 none (W3.drew.setCell ⟨cb,4,none⟩ (.bool B)) (by kernel_rfl) rfl rfl (by rfl) (by unfold execOp;go_simp) (by kernel_rfl) ?_;simp only[Act.put];obtain⟨H4,S4⟩:=H3d.put (c':={ c with expo:=some K,ro:=B }) 4 (.bool B) (H3d.has.putP 4 _) rfl rfl rfl;have N4:=(zq N3).other (p:=⟨cb,4,none⟩) (by show w.heap.size≠cb;omega) (.bool B);have S34:je cb V W3 V (W3.drew.setCell ⟨cb,4,none⟩ (.bool B)):=(je.of (zu (Below.refl _ W3))).trans S4;generalize W3.drew.setCell ⟨cb,4,none⟩ (.bool B)=W4 at *;have a3:=N4.cell 3;have al:=N4.lt;have b7:=H4.has.cell 7;have e7:=H4.has.free 7;have bl:=H4.has.lt;simp only[jg,jd,jf]at a3 b7;clear q2 q3 q4 q6 qB f4 l4 H3d hHeld S4
    go_wp2
    go_end0
    obtain⟨H5,S5⟩:=H4.put (c':={ c with expo:=some K,ro:=B,eat:=n.a }) 7 (.int .i64 n.a) (H4.has.putP 7 _) rfl rfl rfl;have S05:=(S03.trans S34).trans S5;refine⟨S05.only,?_⟩;rw[HR.out];refine⟨rfl,V,?_,S05⟩;rw[HRO.out];exact H5.mono (λ_ _ _ he=> .inl he)
end
section
open Go.ChangeShapes Go.WideShapes Go.ChangeAt Go.RowKit Go.MapKept
variable {E:Nat→Prop}
def xY(ps:List Pt)(ks:List Nat)(i:Nat):Nat:=((ks.take i).map (sz ps)).sum
def Qa(ps:List Pt)(ks:List Nat)(i:Nat):Bool:=(ks.take i).all λk=>sz ps k==sz ps (ks.getD 0 0)
theorem Ux(ps:List Pt)(ks:List Nat){i:Nat}(h:i<ks.length):xY ps ks (i+1)=xY ps ks i+sz ps ks[i]:=by
 unfold xY;rw[List.take_succ_eq_append_getElem h,List.map_append,List.sum_append];rfl
theorem Uf(ps:List Pt)(ks:List Nat){i:Nat}(h:i<ks.length):Qa ps ks (i+1)=(Qa ps ks i&&(sz ps ks[i]==sz ps (ks.getD 0 0))):=by
 unfold Qa;rw[List.take_succ_eq_append_getElem h,List.all_append];simp only[List.all_cons,List.all_nil,Bool.and_true]
theorem Fe(ps:List Pt)(ks:List Nat)(hk:∀k ∈ ks,sz ps k≤8192)(i:Nat):xY ps ks i≤i*8192:=by
 unfold xY
 have :∀l:List Nat,(∀k ∈ l,sz ps k≤8192)→(l.map (sz ps)).sum≤l.length*8192:=by
  intro l
  induction l with
  |nil=>intro _;simp
  |cons a l ih =>
   intro h;have h1:=h a (by simp);have h2:=ih (λk hk=>h k (by simp[hk]));simp only[List.map_cons,List.sum_cons,List.length_cons];omega
 have h1:=this (ks.take i) (λk h=>hk k (List.mem_of_mem_take h));have h2:(ks.take i).length≤i:=by simp;omega
 exact Nat.le_trans h1 (Nat.mul_le_mul_right 8192 h2)
theorem GP(ps:List Pt)(s:Nat):∀(l:List Nat),(l.all λk=>sz ps k==s)=true→(l.map (sz ps)).sum=s*l.length:=by
 intro l
 induction l with
 |nil=>intro _;rfl
 |cons a l ih =>
  intro h;simp only[List.all_cons,Bool.and_eq_true,beq_iff_eq]at h;simp only[List.map_cons,List.sum_cons,List.length_cons,ih h.2,h.1];rw[Nat.mul_succ];omega
theorem gu{w:World}{cb:Nat}{V:CV}{c:Ck}(h:zM E w cb V c)(n:Nd)(A:Option Addr)(L C:Nat)(ks:List Nat){P:Nat→Prop}(Ak:Option Addr)(Ck:Nat)(hK:Zs w P Ak ks)(hl2:2≤ks.length)(hl4:ks.length≤4)(hCk:ks.length≤Ck)(hCm:Ck≤maxLen)(hok:∀k ∈ ks,k<c.parts.length∧sz c.parts k≤8192):
 Calls Tryz.prog 161 #[.pointer (some ⟨cb,0,none⟩),.agg (zR n (.slice A L C)),.slice Ak ks.length Ck] w (xB w (Gd (Ui c.parts n ks))):=by
 have hk0:0<ks.length:=by omega
 have hp0:0<c.parts.length:=by have:=(hok _ (List.getElem_mem hk0)).1;omega
 obtain⟨g,op,Cp,evp,hCp1,hCp2,hg,hSz⟩:=h.vp hp0
 obtain⟨bk,ok,rfl,hbk,-,hcells⟩:∃b off,Ak=some ⟨b,off,none⟩∧b<w.heap.size∧P b∧∀j (h:j<ks.length),w.cell? ⟨b,off+j,none⟩=some (.int .i64 (ks[j]:Nat)):=by
  rcases hK with h|h
  ·rw[h]at hk0;simp at hk0
  ·exact h
 have hgd:ks.getD 0 0=ks[0]:=by rw[List.getD_eq_getElem?_getD,List.getElem?_eq_getElem hk0];rfl
 obtain⟨W2,hW2⟩:∃W2,W2=(w.alloc (.cells #[.string (bs n.op),.string (bs n.s),.int .i64 n.n,.int .i64 n.a,.slice A L C] 24)).alloc (.cells #[.int .i64 0,.int .i64 0,.slice none 0 0,.int .i64 0,.int .i64 0,.int .i64 0,.slice none 0 0,.slice none 0 0] 47):=⟨_,rfl⟩
 have hb2:Below w.heap.size w W2:=by rw[hW2];exact qv w _ _
 have P2:ze W2 (w.heap.size+1) 47 #[.int .i64 0,.int .i64 0,.slice none 0 0,.int .i64 0,.int .i64 0,.int .i64 0,.slice none 0 0,.slice none 0 0]:=by rw[hW2];exact ze.new_at (by simp)
 have N2:ze W2 w.heap.size 24 #[.string (bs n.op),.string (bs n.s),.int .i64 n.n,.int .i64 n.a,.slice A L C]:=by rw[hW2];exact(ze.new w _ _).alloc _
 have c2:=h.has.cell 2;simp only[List.getElem?_toArray,List.getElem?_cons_zero,List.getElem?_cons_succ,evp]at c2;have lcb:=h.has.lt;have hsum:=Fe c.parts ks (λk hk=>(hok k hk).2);have HW:Hid (W2=(w.alloc (.cells #[.string (bs n.op),.string (bs n.s),.int .i64 n.n,.int .i64 n.a,.slice A L C] 24)).alloc (.cells #[.int .i64 0,.int .i64 0,.slice none 0 0,.int .i64 0,.int .i64 0,.int .i64 0,.slice none 0 0,.slice none 0 0] 47)):=hW2;have hot:=zx n.op;have HSU:Hid (∀i (h:i<ks.length),xY c.parts ks (i+1)=xY c.parts ks i+sz c.parts ks[i]):=λi h=>Ux _ _ h
 have HAL:Hid (∀i (h:i<ks.length),Qa c.parts ks (i+1)=(Qa c.parts ks i&&(sz c.parts ks[i]==sz c.parts (ks.getD 0 0)))):=λi h=>Uf _ _ h
 have HR:Hid (Ui c.parts n ks=if n.op=qZ then(if xY c.parts ks ks.length≤8192 then .ok ⟨3,xY c.parts ks ks.length,ks,0,0,0,[],[]⟩else .error (134,n.a))else if Qa c.parts ks ks.length=true then .ok ⟨4,sz c.parts (ks.getD 0 0),ks,0,0,0,[],[]⟩else .error (134,n.a)):=by
  show Ui c.parts n ks=_;unfold Ui xY Qa;rw[List.take_length]
 have HAS:Hid (Qa c.parts ks ks.length=true→xY c.parts ks ks.length=sz c.parts (ks.getD 0 0)*ks.length):=by
  unfold xY Qa;rw[List.take_length];exact GP _ _ _
 have HSz:Hid (∀k ∈ ks,k<c.parts.length∧sz c.parts k≤8192):=hok
 obtain⟨NP,hNP⟩:∃NP,NP=c.parts.length:=⟨_,rfl⟩
 have HNP:Hid (NP=c.parts.length):=hNP;rw[←hNP]at hCp1 c2 evp
 obtain⟨Lk,hLk⟩:∃Lk,Lk=ks.length:=⟨_,rfl⟩
 have HLk:Hid (Lk=ks.length):=hLk;rw[←hLk]at hl2 hl4 hCk hk0 ⊢
 obtain⟨D,hD⟩:∃D:Nat→Nat,D=xY c.parts ks:=⟨_,rfl⟩
 obtain⟨E,hE⟩:∃E:Nat→Bool,E=Qa c.parts ks:=⟨_,rfl⟩
 have hD0:D 0=0:=by rw[hD];rfl
 have hE0:E 0=true:=by rw[hE];rfl
 rw[←hD]at HSU HR HAS hsum;rw[←hE]at HAL HR HAS;unfold zR;clear hW2 hNP hLk hD hE hok hK h hp0;have hL0:0<Lk:=hk0;go_enter Tryz.func161,Tryz.ntmps161
 go_wp2
 rw[←HW.out]
 go_loopw [7,8,13] (λz7 z8 z13 wr=>∃i:Nat,z7= .int .i64 (D i:Nat)∧z8= .bool (E i)∧z13= .int .i64 (i:Nat)∧i≤Lk∧Below W2.heap.size W2 wr) (λ_ _ z _=>Lk-(intOf z).toNat)
 case atStart=>exact⟨0,by rw[hD0];rfl,by rw[hE0],rfl,Nat.zero_le _,Below.refl _ _⟩
 case round =>
  obtain⟨i,rfl,rfl,rfl,hi,hB⟩:=hrel;have hD4:=hsum i;by_cases hlt:i<Lk
  ·have hlt':i<ks.length:=by rw[←HLk.out];exact hlt
   have hk0':0<ks.length:=by rw[←HLk.out];exact hL0
   have hB0:Below w.heap.size w wr:=hb2.trans (hB.mono hb2.size);have cki:=za hB0 (hcells i hlt');have k0r:=za hB0 (hcells 0 hk0');have c2r:=za hB0 c2;obtain⟨hKn',hSle⟩:=HSz.out _ (List.getElem_mem hlt');obtain⟨hK0n',hS0le⟩:=HSz.out _ (List.getElem_mem hk0');have sKr:=hSz.below hB0 hg _ hKn';have s0r:=hSz.below hB0 hg _ hK0n';have HSi:=HSU.out i hlt';have HAi:=HAL.out i hlt';rw[hgd]at HAi;rw[←HNP.out]at hKn' hK0n';have lcr:cb<wr.heap.size:=Nat.lt_of_lt_of_le lcb hB0.size;have lbk:bk<wr.heap.size:=Nat.lt_of_lt_of_le hbk hB0.size;have lg:g<wr.heap.size:=Nat.lt_of_lt_of_le hg hB0.size;generalize sz c.parts ks[i]=S at *;generalize sz c.parts ks[0]=S0 at *;generalize ks[i]=K at *;generalize ks[0]=K0 at *;have hKn:K<NP:=hKn';have hK0n:K0<NP:=hK0n';have HI1:Hid (D (i+1)=D i+S):=HSi;have HI2:Hid (E (i+1)=(E i&&(S==S0))):=HAi;clear HSi HAi hKn' hK0n'
   obtain⟨T,hT⟩:∃T,T=D i:=⟨_,rfl⟩
   obtain⟨B,hB'⟩:∃B,B=E i:=⟨_,rfl⟩
   rw[←hT]at HI1 hD4 ⊢;rw[←hB']at HI2 ⊢;have hTb:T≤40000:=by omega
   clear hT hB' hD4;have hint:(i:Int)<(Lk:Int):=by omega
   have hKint:(K:Int)<(NP:Int):=by omega
   cases B with
   |true =>
    go_wp2_with (first
     |((refine zf 15 rfl ?_)
       (refine zb (some 15) _ rfl (by rfl) (jw _ _ rfl bk ok i Lk Ck rfl rfl hlt wr) ?_))
     |((refine zf 24 rfl ?_)
       (refine zb (some 24) _ rfl (by rfl) (qn _ _ rfl g op K NP Cp rfl rfl hKn wr) ?_)))
    refine wp_region_held_drew (S:=λwz=>wz.cell? ⟨cb,2,none⟩=some (.slice (some ⟨g,op,none⟩) NP Cp)∧wz.cell? ⟨bk,ok,none⟩=some (.int .i64 (K0:Nat))∧wz.cell? ⟨g,op+K*8+1,none⟩=some (.int .i64 (S:Nat))∧wz.cell? ⟨g,op+K0*8+1,none⟩=some (.int .i64 (S0:Nat))) (by kernel_rfl) (⟨c2r,k0r,sKr,s0r⟩) (λhHeld=>?_);refine zS 0 (some 28) (.bool true) hHeld ?_;simp only[Act.put,zk,zj,zl];refine zS 1 (some 29) (.bool true) hHeld ?_;simp only[Act.put,zk,zj,zl];refine zS 2 (some 30) (.pointer (some ⟨cb,0,none⟩)) hHeld ?_;simp only[Act.put,zk,zj,zl];refine zS 3 (some 31) (.pointer (some ⟨cb,0,none⟩)) hHeld ?_;simp only[Act.put,zk,zj,zl];refine zS 4 (some 32) (.pointer (some ⟨cb,0,none⟩)) hHeld ?_;simp only[Act.put,zk,zj,zl];refine zS 5 (some 33) (.pointer (some ⟨cb,2,none⟩)) hHeld ?_;simp only[Act.put,zk,zj,zl];refine qq 6 (some 34) (.slice (some ⟨g,op,none⟩) NP Cp) rfl rfl (λwz hz=>by obtain⟨z0,z1,z2,z3⟩:=hz;unfold execOp;go_simp) hHeld ?_;simp only[Act.put,zk,zj,zl];refine zS 7 (some 35) (.int .i64 (K:Nat)) hHeld ?_;simp only[Act.put,zk,zj,zl];refine qq 8 (some 36) (.pointer (some ⟨g,op+K*8,none⟩)) rfl rfl (λwz _=>qn _ _ rfl g op K NP Cp rfl rfl hKn wz) hHeld ?_;simp only[Act.put,zk,zj,zl];refine zS 9 (some 37) (.pointer (some ⟨g,op+K*8+1,none⟩)) hHeld ?_;simp only[Act.put,zk,zj,zl];refine qq 10 (some 38) (.int .i64 (S:Nat)) rfl rfl (λwz hz=>by obtain⟨z0,z1,z2,z3⟩:=hz;unfold execOp;go_simp) hHeld ?_;simp only[Act.put,zk,zj,zl];refine zS 11 (some 39) (.pointer (some ⟨cb,0,none⟩)) hHeld ?_;simp only[Act.put,zk,zj,zl];refine zS 12 (some 40) (.pointer (some ⟨cb,0,none⟩)) hHeld ?_;simp only[Act.put,zk,zj,zl];refine zS 13 (some 41) (.pointer (some ⟨cb,0,none⟩)) hHeld ?_;simp only[Act.put,zk,zj,zl];refine zS 14 (some 42) (.pointer (some ⟨cb,2,none⟩)) hHeld ?_;simp only[Act.put,zk,zj,zl];refine qq 15 (some 43) (.slice (some ⟨g,op,none⟩) NP Cp) rfl rfl (λwz hz=>by obtain⟨z0,z1,z2,z3⟩:=hz;unfold execOp;go_simp) hHeld ?_;simp only[Act.put,zk,zj,zl];refine zS 16 (some 44) (.slice (some ⟨bk,ok,none⟩) Lk Ck) hHeld ?_;simp only[Act.put,zk,zj,zl];refine qq 17 (some 45) (.pointer (some ⟨bk,ok,none⟩)) rfl rfl (λwz _=>jw _ _ rfl bk ok 0 Lk Ck rfl rfl hL0 wz) hHeld ?_;simp only[Act.put,zk,zj,zl];refine qq 18 (some 46) (.int .i64 (K0:Nat)) rfl rfl (λwz hz=>by obtain⟨z0,z1,z2,z3⟩:=hz;unfold execOp;go_simp) hHeld ?_;simp only[Act.put,zk,zj,zl];refine qq 19 (some 47) (.pointer (some ⟨g,op+K0*8,none⟩)) rfl rfl (λwz _=>qn _ _ rfl g op K0 NP Cp rfl rfl hK0n wz) hHeld ?_;simp only[Act.put,zk,zj,zl];refine zS 20 (some 48) (.pointer (some ⟨g,op+K0*8+1,none⟩)) hHeld ?_;simp only[Act.put,zk,zj,zl];refine qq 21 (some 49) (.int .i64 (S0:Nat)) rfl rfl (λwz hz=>by obtain⟨z0,z1,z2,z3⟩:=hz;unfold execOp;go_simp) hHeld ?_;simp only[Act.put,zk,zj,zl];refine qq 22 (some 50) (.bool (S==S0)) rfl rfl (λwz _=>Hj _ _ rfl S S0 rfl rfl wz) hHeld ?_;simp only[Act.put,zk,zj,zl];refine zS 23 (some 51) (.bool (S==S0)) hHeld ?_;simp only[Act.put,zk,zj,zl];refine zS 24 (some 8) (.bool (S==S0)) hHeld ?_;simp only[Act.put,zk,zj,zl];refine wpAnyH_done (by kernel_rfl) ?_ _
    go_wp2
    go_roundw
    case rel=>exact⟨i+1,by rw[HI1.out];go_num,by rw[HI2.out];rfl,by go_num,by omega,zu hB⟩
    case measure=>simp[intOf];omega
   |false =>
    go_wp2_with (first
     |((refine zf 15 rfl ?_)
       (refine zb (some 15) _ rfl (by rfl) (jw _ _ rfl bk ok i Lk Ck rfl rfl hlt wr) ?_))
     |((refine zf 24 rfl ?_)
       (refine zb (some 24) _ rfl (by rfl) (qn _ _ rfl g op K NP Cp rfl rfl hKn wr) ?_)))
    go_quiet (fail)
    go_wp2
    go_roundw
    case rel=>exact⟨i+1,by rw[HI1.out];go_num,by rw[HI2.out];rfl,by go_num,by omega,jG hB _⟩
    case measure=>simp[intOf];omega
  ·obtain rfl:i=Lk:=by omega
   rw[←HLk.out]at HAS HR;have hB0:Below w.heap.size w wr:=hb2.trans (hB.mono hb2.size);have P3:=P2.below hB P2.lt;have N3:=N2.below hB N2.lt;have nc0:=N3.cell 0;have nc3:=N3.cell 3;have ln3:=N3.lt;have lp3:=P3.lt;have a0:=P3.cell 0;have b0:=P3.free 0;have a1:=P3.cell 1;have b1:=P3.free 1;have a2:=P3.cell 2;have b2:=P3.free 2;have a3:=P3.cell 3;have b3:=P3.free 3;have a4:=P3.cell 4;have b4:=P3.free 4;have a5:=P3.cell 5;have b5:=P3.free 5;have a6:=P3.cell 6;have b6:=P3.free 6;have a7:=P3.cell 7;have b7:=P3.free 7
   obtain⟨T,hT⟩:∃T,T=D i:=⟨_,rfl⟩
   obtain⟨B,hB'⟩:∃B,B=E i:=⟨_,rfl⟩
   rw[←hT]at HAS HR hD4 ⊢;rw[←hB']at HAS HR ⊢;have hTb:T≤40000:=by omega
   obtain⟨s0,hs0⟩:∃s0,s0=sz c.parts (ks.getD 0 0):=⟨_,rfl⟩
   rw[←hs0]at HAS HR;clear hT hB' hs0 hD4 HSU HAL;have fin:∀(kd s:Nat) (kk:List Nat),xB w (Gd (.ok ⟨kd,s,kk,0,0,0,[],[]⟩)) (.returned (.agg #[.int .i64 (kd:Nat),.int .i64 (s:Nat),.slice none 0 0,.int .i64 0,.int .i64 0,.int .i64 0,.slice none 0 0,.slice none 0 0])) (VG wr (w.heap.size+1) (.int .i64 (kd:Nat)) (.int .i64 (s:Nat)) (.slice none 0 0) (.int .i64 0) (.int .i64 0) (.int .i64 0) (.slice none 0 0) (.slice none 0 0)):=λkd s kk=>⟨kN hB0 (Nat.le_succ _) _ _ _ _ _ _ _ _,(.slice none 0 0,.slice none 0 0,.slice none 0 0),rfl,⟨none,0,rfl,Nat.le_refl _,by unfold maxLen;omega,.inl rfl⟩,⟨none,0,rfl,Nat.le_refl _,by unfold maxLen;omega,.inl rfl⟩,⟨none,0,rfl,Nat.le_refl _,by unfold maxLen;omega,.inl rfl⟩⟩
   by_cases hco:n.op=qZ
   ·have HR:=HR.out.trans (if_pos hco)
    have f0:(n.op== [99,111,110,99,97,116])=true:=by rw[hco];decide
    clear hco;by_cases hle:T≤8192
    ·have HQ:=zz (HR.trans (if_pos hle))
     clear HR;have hTi:(T:Int)≤8192:=by omega
     have hTd:decide (T≤8192)=true:=decide_eq_true hle
     go_wp2_with (first
      |((go_at_call 86)
        refine(qa 134 n.a _).mono ?_;rintro e w5 ⟨rfl,hw5⟩;(obtain rfl:wr=w5:=hw5.symm)))
     exact yq rfl rfl (P3.set8 _ _ _ _ _ _ _ _) rfl (by rw[HQ.out];exact fin 3 T ks)
    ·have HQ:=zz (HR.trans (if_neg hle))
     clear HR;have hTi:¬(T:Int)≤8192:=by omega
     have hTd:decide (T≤8192)=false:=decide_eq_false hle
     go_wp2_with (first
      |((go_at_call 86)
        refine(qO 134 n.a _).mono ?_;(rintro e w5 ⟨rfl,rfl⟩)))
     exact⟨rfl,hB0,by rw[HQ.out];rfl⟩
   ·have HR:=HR.out.trans (if_neg hco)
    have f0:(n.op== [99,111,110,99,97,116])=false:=by rw[beq_eq_false_iff_ne];exact hco
    clear hco;cases B with
    |true =>
     have HQ:=zz (HR.trans (if_pos rfl));clear HR;have hq:=HAS.out rfl;have hle:s0*i≤1000000:=by omega
     subst hq
     go_wp2_with (first
      |((go_at_call 86)
        refine(qa 134 n.a _).mono ?_;rintro e w5 ⟨rfl,hw5⟩;(obtain rfl:wr=w5:=hw5.symm))
      |((refine zf 70 rfl ?_)
        (refine zb (some 70) (.int .i64 (s0:Nat)) rfl (by rfl) (Fa _ _ rfl s0 i rfl rfl hL0 hle wr) ?_)))
     exact yq rfl rfl (P3.set8 _ _ _ _ _ _ _ _) rfl (by rw[HQ.out];exact fin 4 s0 ks)
    |false =>
     have HQ:=zz (HR.trans (if_neg (by decide)));clear HR
     go_wp2_with (first
      |((go_at_call 86)
        refine(qO 134 n.a _).mono ?_;(rintro e w5 ⟨rfl,rfl⟩)))
     exact⟨rfl,hB0,by rw[HQ.out];rfl⟩
end
section
open Go.ChangeShapes Go.WideShapes Go.ChangeAt Go.RowKit Go.MapKept
variable {E:Nat→Prop}
theorem V6{o:Oper}{a:Act}(x:Operand)(ho:o.op= .slice 45 x none (some (.const (.int .i64 16))) none)(b off C:Nat)(hx:a.eval x= .slice (some ⟨b,off,none⟩) 32 C)(hC:32≤C)(hm:C≤maxLen)(w:World):(execOp a.eval o).run Tryz.prog w= .ok (.value (.slice (some ⟨b,off,none⟩) 16 C)) w:=by
 unfold maxLen at hm;have h1:(16:Int)≤(C:Int):=by omega
 have h2:¬((C:Nat):Int)<16:=by omega
 have h3:¬C<16:=by omega
 have h4:16≤C:=by omega
 unfold execOp;simp only[ho,hx];go_simp
theorem Yb{o:Oper}{a:Act}(x:Operand)(ho:o.op= .slice 45 x (some (.const (.int .i64 16))) none none)(b off C:Nat)(hx:a.eval x= .slice (some ⟨b,off,none⟩) 32 C)(hC:32≤C)(hm:C≤maxLen)(w:World):(execOp a.eval o).run Tryz.prog w= .ok (.value (.slice (some ⟨b,off+16,none⟩) 16 (C-16))) w:=by
 unfold maxLen at hm;have h1:(32:Int)≤(C:Int):=by omega
 have h3:¬C<32:=by omega
 have h4:¬C-16=0:=by omega
 have h5:¬C=16:=by omega
 unfold execOp;simp only[ho,hx];go_simp
theorem um{w:World}{P:Nat→Prop}{A:Option Addr}{l:List UInt8}(h:yc w P A l)(hl:0<l.length):∃b off,A=some ⟨b,off,none⟩∧b<w.heap.size∧P b∧∀j (h:j<l.length),w.cell? ⟨b,off+j,none⟩=some (.int .u8 (l[j].toNat:Nat)):=by
 rcases h with h|h
 ·rw[h]at hl;simp at hl
 ·exact h
theorem dB{w:World}{cb:Nat}{V:CV}{c:Ck}(h:zM E w cb V c)(n:Nd)(A:Option Addr)(C:Nat)(hr:jZ w n A C)(hl:2≤n.l.length)(ho:n.op=vx)(size:Nat)(hsz:size≤8192)(hby:∀x ∈ c.names,x.2.bytes.length≤1000)(h32:∀m,jj c.names (yf n.l 1) [zT]= .ok m→m.bytes.length=32):Calls Tryz.prog 163 #[.pointer (some ⟨cb,0,none⟩),.agg (zR n (.slice A n.l.length C)),.int .i64 (size:Nat)] w (xB w (qN c.names n size [])):=by
 have hcs:qN c.names n size []=match jj c.names (yf n.l 1) [zT]with | .error e=> .error e| .ok m=>if m.bytes.take 16=m.bytes.drop 16 then .error (135,n.a)else .ok ⟨6,size,[],0,0,0,m.bytes,[]⟩:=by
  unfold qN;rw[if_pos ho];rfl
 rw[hcs];have f0:(n.op== [99,114,121,112,116])=true:=by rw[ho];decide
 have hot:=zx n.op
 obtain⟨W2,hW2⟩:∃W2,W2=(w.alloc (.cells #[.string (bs n.op),.string (bs n.s),.int .i64 n.n,.int .i64 n.a,.slice A n.l.length C] 24)).alloc (.cells #[.int .i64 0,.int .i64 0,.slice none 0 0,.int .i64 0,.int .i64 0,.int .i64 0,.slice none 0 0,.slice none 0 0] 47):=⟨_,rfl⟩
 have hb2:Below w.heap.size w W2:=by rw[hW2];exact qv w _ _
 have P2:ze W2 (w.heap.size+1) 47 #[.int .i64 0,.int .i64 0,.slice none 0 0,.int .i64 0,.int .i64 0,.int .i64 0,.slice none 0 0,.slice none 0 0]:=by rw[hW2];exact ze.new_at (by simp)
 have N2:ze W2 w.heap.size 24 #[.string (bs n.op),.string (bs n.s),.int .i64 n.n,.int .i64 n.a,.slice A n.l.length C]:=by rw[hW2];exact(ze.new w _ _).alloc _
 have hsec:=JT (h.keep hb2) n A C (hr.grow hb2) hl zT hby;rw[show bs zT=⟨#[107,101,121]⟩from rfl]at hsec;rw[hW2]at hsec;have HW:Hid (W2=(w.alloc (.cells #[.string (bs n.op),.string (bs n.s),.int .i64 n.n,.int .i64 n.a,.slice A n.l.length C] 24)).alloc (.cells #[.int .i64 0,.int .i64 0,.slice none 0 0,.int .i64 0,.int .i64 0,.int .i64 0,.slice none 0 0,.slice none 0 0] 47)):=hW2;clear hW2 hcs h hr hl ho;generalize n.l.length=L at *;cases hK:jj c.names (yf n.l 1) [zT]with
 |error er =>
  obtain⟨ec,ek⟩:=er;rw[hK]at hsec;clear hK h32;unfold zR at hsec ⊢;go_enter Tryz.func163,Tryz.ntmps163
  go_wp2_with (first
   |((go_at_call 183)
     refine hsec.mono ?_;(rintro e w3 ⟨hb3,rfl⟩)))
  rw[←HW.out]at hb3;exact⟨rfl,hb2.trans (hb3.mono hb2.size),rfl⟩
 |ok m =>
  have hml:=h32 m hK;rw[hK]at hsec;clear hK h32
  obtain⟨R,hR⟩:∃R:Except Er Pt,R=if m.bytes.take 16=m.bytes.drop 16 then .error (135,n.a)else .ok ⟨6,size,[],0,0,0,m.bytes,[]⟩:=⟨_,rfl⟩
  simp only[];rw[←hR];have HR:Hid (R=if m.bytes.take 16=m.bytes.drop 16 then .error (135,n.a)else .ok ⟨6,size,[],0,0,0,m.bytes,[]⟩):=hR;clear hR;unfold zR at hsec ⊢;go_enter Tryz.func163,Tryz.ntmps163
  go_wp2_with (first
   |((go_at_call 183)
     refine hsec.mono ?_;rintro e w3 ⟨hb3,v3,rfl,Ab,Cb,rfl,e2,e3,hBy⟩;rw[←HW.out]at hb3 hBy;have N3:=N2.below hb3 N2.lt;have nc3:=N3.cell 3;have ln3:=N3.lt;obtain⟨bb,bo,rfl,hbb,hbP,hbc⟩:=um hBy (by rw[hml];decide);(clear hBy)))
  simp only[jg,jd,jf]at nc3;rw[hml]at e2;have hCb:32≤Cb:=e2;have hCm:Cb≤maxLen:=e3
  have heq:∀W,Below w3.heap.size w3 W→Calls Tryz.prog 184 #[.slice (some ⟨bb,bo,none⟩) 16 Cb,.slice (some ⟨bb,bo+16,none⟩) 16 (Cb-16)] W λe w'=>e= .returned (.bool (m.bytes.take 16==m.bytes.drop 16))∧w'=W:=by
   intro W hW
   have e1:Lib.bytesOf ((m.bytes.take 16).map λb=>((b.toNat:Nat):Int))=m.bytes.take 16:=by
    unfold Lib.bytesOf;rw[List.map_map];exact(List.map_congr_left (λb _=>by simp)).trans (List.map_id _)
   have e2':Lib.bytesOf ((m.bytes.drop 16).map λb=>((b.toNat:Nat):Int))=m.bytes.drop 16:=by
    unfold Lib.bytesOf;rw[List.map_map];exact(List.map_congr_left (λb _=>by simp)).trans (List.map_id _)
   have hh:=Tryz.bytes_Equal_all (some ⟨bb,bo,none⟩) (some ⟨bb,bo+16,none⟩) 16 Cb 16 (Cb-16) ((m.bytes.take 16).map λb=>((b.toNat:Nat):Int)) ((m.bytes.drop 16).map λb=>((b.toNat:Nat):Int)) W (by simp[hml]) (by simp[hml]) ?_ ?_
   ·rw[e1,e2']at hh
    exact hh
   ·refine λ_=>⟨bb,bo,rfl,λi hi=>?_⟩
    have hi':i<m.bytes.length:=by rw[hml];omega
    rw[(hW.cell (p:=⟨bb,bo+i,none⟩) hbb).trans (hbc i hi')];simp[List.getD_eq_getElem?_getD,hi,hi']
   ·refine λ_=>⟨bb,bo+16,rfl,λi hi=>?_⟩
    have hi':16+i<m.bytes.length:=by rw[hml];omega
    have:=(hW.cell (p:=⟨bb,bo+(16+i),none⟩) hbb).trans (hbc (16+i) hi');rw[show bo+16+i=bo+(16+i) by omega,this];simp[List.getD_eq_getElem?_getD,hi']
  by_cases hq:m.bytes.take 16=m.bytes.drop 16
  ·have hqb:(m.bytes.take 16==m.bytes.drop 16)=true:=by simpa using hq
   rw[hqb]at heq;have HQ:Hid (m.bytes.take 16=m.bytes.drop 16):=hq;clear hq hqb;refine wp_region_held_drew (S:=λwz=>wz.cell? ⟨w.heap.size,3,none⟩=some (.int .i64 n.a)∧wz.heap=w3.heap∧Below w3.heap.size w3 wz) (by kernel_rfl) (⟨nc3,rfl,(Below.refl _ w3).drew⟩) (λhHeld=>?_);refine zS 0 (some 21) (.slice (some ⟨bb,bo,none⟩) 32 Cb) hHeld ?_;simp only[Act.put,zk,zj,zl];refine qq 1 (some 22) (.slice (some ⟨bb,bo,none⟩) 16 Cb) rfl rfl (λwz _=>V6 _ rfl bb bo Cb rfl hCb hCm wz) hHeld ?_;simp only[Act.put,zk,zj,zl];refine zS 2 (some 23) (.slice (some ⟨bb,bo,none⟩) 32 Cb) hHeld ?_;simp only[Act.put,zk,zj,zl];refine qq 3 (some 24) (.slice (some ⟨bb,bo+16,none⟩) 16 (Cb-16)) rfl rfl (λwz _=>Yb _ rfl bb bo Cb rfl hCb hCm wz) hHeld ?_;simp only[Act.put,zk,zj,zl];refine zS 6 (some 27) (.pointer (some ⟨w.heap.size,3,none⟩)) hHeld ?_;simp only[Act.put,zk,zj,zl];refine qq 7 (some 28) (.int .i64 n.a) rfl rfl (λwz hz=>by obtain⟨z0,z1,z2⟩:=hz;unfold execOp;go_simp) hHeld ?_;simp only[Act.put,zk,zj,zl];refine qG 4 (some 25) 184 #[.slice (some ⟨bb,bo,none⟩) 16 Cb,.slice (some ⟨bb,bo+16,none⟩) 16 (Cb-16)] (by kernel_rfl) rfl rfl (by rfl) (by kernel_rfl) (heq w3.drew (zu (Below.refl _ w3))) ?_;rintro e w4 ⟨rfl,rfl⟩;refine .inl ⟨_,rfl,hHeld,?_⟩;simp only[Act.put,zk,zj,zl];refine zS 5 (some 26) (.bool false) hHeld ?_;simp only[Act.put,zk,zj,zl];refine qG 8 (some 29) 86 #[.bool false,.int .i64 135,.int .i64 n.a] (by kernel_rfl) rfl rfl (by rfl) (by kernel_rfl) (qO 135 n.a w3.drew) ?_;rintro e w5 ⟨rfl,rfl⟩;refine .inr ⟨_,rfl,?_⟩;exact⟨rfl,zu (hb2.trans (hb3.mono hb2.size)),by rw[HR.out,if_pos HQ.out];rfl⟩
  ·have hqb:(m.bytes.take 16==m.bytes.drop 16)=false:=by simpa using hq
   rw[hqb]at heq;have HQ:Hid (¬m.bytes.take 16=m.bytes.drop 16):=hq;clear hq hqb;refine wp_region_held_drew (S:=λwz=>wz.cell? ⟨w.heap.size,3,none⟩=some (.int .i64 n.a)∧wz.heap=w3.heap∧Below w3.heap.size w3 wz) (by kernel_rfl) (⟨nc3,rfl,(Below.refl _ w3).drew⟩) (λhHeld=>?_);refine zS 0 (some 21) (.slice (some ⟨bb,bo,none⟩) 32 Cb) hHeld ?_;simp only[Act.put,zk,zj,zl];refine qq 1 (some 22) (.slice (some ⟨bb,bo,none⟩) 16 Cb) rfl rfl (λwz _=>V6 _ rfl bb bo Cb rfl hCb hCm wz) hHeld ?_;simp only[Act.put,zk,zj,zl];refine zS 2 (some 23) (.slice (some ⟨bb,bo,none⟩) 32 Cb) hHeld ?_;simp only[Act.put,zk,zj,zl];refine qq 3 (some 24) (.slice (some ⟨bb,bo+16,none⟩) 16 (Cb-16)) rfl rfl (λwz _=>Yb _ rfl bb bo Cb rfl hCb hCm wz) hHeld ?_;simp only[Act.put,zk,zj,zl];refine zS 6 (some 27) (.pointer (some ⟨w.heap.size,3,none⟩)) hHeld ?_;simp only[Act.put,zk,zj,zl];refine qq 7 (some 28) (.int .i64 n.a) rfl rfl (λwz hz=>by obtain⟨z0,z1,z2⟩:=hz;unfold execOp;go_simp) hHeld ?_;simp only[Act.put,zk,zj,zl];refine qG 4 (some 25) 184 #[.slice (some ⟨bb,bo,none⟩) 16 Cb,.slice (some ⟨bb,bo+16,none⟩) 16 (Cb-16)] (by kernel_rfl) rfl rfl (by rfl) (by kernel_rfl) (heq w3.drew (zu (Below.refl _ w3))) ?_;rintro e w4 ⟨rfl,rfl⟩;refine .inl ⟨_,rfl,hHeld,?_⟩;simp only[Act.put,zk,zj,zl];refine zS 5 (some 26) (.bool true) hHeld ?_;simp only[Act.put,zk,zj,zl];refine qG 8 (some 29) 86 #[.bool true,.int .i64 135,.int .i64 n.a] (by kernel_rfl) rfl rfl (by rfl) (by kernel_rfl) (qa 135 n.a w3.drew) ?_;rintro e w5 ⟨rfl,rfl⟩;refine .inl ⟨_,rfl,hHeld,?_⟩;simp only[Act.put,zk,zj,zl];refine wpAnyH_done (by kernel_rfl) ?_ _;have P3:=zq (P2.below hb3 P2.lt);have hb03:Below w.heap.size w w3.drew:=zu (hb2.trans (hb3.mono hb2.size));have hBy4:yc w3.drew (λg=>W2.heap.size≤g) (some ⟨bb,bo,none⟩) m.bytes:= .inr ⟨bb,bo,rfl,hbb,hbP,hbc⟩;clear hHeld heq;generalize w3.drew=W4 at P3 hb03 hBy4 ⊢;have lp3:=P3.lt;have a0:=P3.cell 0;have b0:=P3.free 0;have a1:=P3.cell 1;have b1:=P3.free 1;have a2:=P3.cell 2;have b2:=P3.free 2;have a3:=P3.cell 3;have b3:=P3.free 3;have a4:=P3.cell 4;have b4:=P3.free 4;have a5:=P3.cell 5;have b5:=P3.free 5;have a6:=P3.cell 6;have b6:=P3.free 6;have a7:=P3.cell 7;have b7:=P3.free 7
   go_wp2
   have hbf:=kN (g:=w.heap.size+1) hb03 (Nat.le_succ _) (.int .i64 6) (.int .i64 (size:Nat)) (.slice none 0 0) (.int .i64 0) (.int .i64 0) (.int .i64 0) (.slice (some ⟨bb,bo,none⟩) 32 Cb) (.slice none 0 0);refine yq rfl rfl (P3.set8 _ _ _ _ _ _ _ _) rfl ⟨hbf,?_⟩;rw[HR.out,if_neg HQ.out];refine⟨(.slice none 0 0,.slice (some ⟨bb,bo,none⟩) 32 Cb,.slice none 0 0),rfl,?_⟩;refine⟨⟨none,0,rfl,Nat.le_refl _,by unfold maxLen;omega,.inl rfl⟩,⟨some ⟨bb,bo,none⟩,Cb,by rw[hml],by rw[hml];exact e2,e3,?_⟩,⟨none,0,rfl,Nat.le_refl _,by unfold maxLen;omega,.inl rfl⟩⟩
   refine hBy4.keep (by simp) (λk hk hB=>⟨by
    have hk2:k≠w.heap.size+1:=by have:=P2.lt;have hB':W2.heap.size≤k:=hB;omega
    iterate 8 rw[Below.heap_setCell _ _ _ k hk2],Nat.le_trans hb2.size hB⟩)
end
section
open Go.ChangeShapes Go.WideShapes Go.ChangeAt Go.RowKit Go.MapKept
variable {E:Nat→Prop}
theorem di(n o:Nat)(c:Int)(w:World):Calls Tryz.prog 162 #[.int .i64 (n:Nat),.int .i64 (o:Nat),.int .i64 c] w λe w'=>∃t:Int,e= .returned (.tuple #[.int .i64 t,.int .i64 (slt n o c:Nat)])∧Below w.heap.size w w':=by
 unfold slt
 by_cases h:(1≤n∧n≤8192)∧(1≤o∧o≤8192)∧(1≤c∧c≤16)
 ·rw[if_pos h]
  obtain⟨h1,h2,h3⟩:=h
  obtain⟨m,rfl⟩:∃m:Nat,c=(m:Nat):=⟨c.toNat,by omega⟩
  refine(dQ n o m w h1 h2 ⟨by omega,by omega⟩).mono ?_;rintro e w' ⟨s,rfl,hg,hb⟩;refine⟨(stA (yX o m) s:Nat),?_,hb⟩;rw[show s=DG (vt o m) (QU (yX o m) m n)from hg.eq (VA _ _),Int.toNat_natCast]
 ·rw[if_neg h]
  refine(Db n o c w (by omega)).mono ?_;rintro e w' ⟨rfl,hb⟩;exact⟨0,rfl,hb⟩
structure PIn (E:Nat→Prop) (w:World) (cb:Nat) (V:CV) (c:Ck) (ks:List Nat) (bk ok Ck:Nat):Prop where
 ck:zM E w cb V c
 lt:bk<w.heap.size
 cells:∀j (h:j<ks.length),w.cell? ⟨bk,ok+j,none⟩=some (.int .i64 (ks[j]:Nat))
 pos:0<ks.length
 cap:ks.length≤Ck
 max:Ck≤maxLen
 kid:∀k ∈ ks,yW c.parts k
theorem Kk{w:World}{cb:Nat}{V:CV}{c:Ck}{ks:List Nat}{bk ok Ck:Nat}(hI:PIn E w cb V c ks bk ok Ck)(n:Nd)(A:Option Addr)(C:Nat)(hr:jZ w n A C)(ho:n.op=jh)(hl:n.l.length=3)(hx1:0≤(yf n.l 1).n∧(yf n.l 1).n≤999999999)(hx2:0≤(yf n.l 2).n∧(yf n.l 2).n≤999999999):
 Calls Tryz.prog 144 #[.pointer (some ⟨cb,0,none⟩),.agg (zR n (.slice A n.l.length C)),.slice (some ⟨bk,ok,none⟩) ks.length Ck] w (xB w (Gd (jU c.names c.parts n ks))):=by
 have hk0:=hI.pos;have hkid:=hI.kid;have h:=hI.ck;have hp0:0<c.parts.length:=by have:=(hkid _ (List.getElem_mem hk0)).1;omega
 obtain⟨g,op,Cp,evp,hCp1,hCp2,hg,hSz⟩:=h.vp hp0;have hgd:ks.getD 0 0=ks[0]:=by rw[List.getD_eq_getElem?_getD,List.getElem?_eq_getElem hk0];rfl
 obtain⟨W2,hW2⟩:∃W2,W2=(w.alloc (.cells #[.string (bs n.op),.string (bs n.s),.int .i64 n.n,.int .i64 n.a,.slice A n.l.length C] 24)).alloc (.cells #[.int .i64 0,.int .i64 0,.slice none 0 0,.int .i64 0,.int .i64 0,.int .i64 0,.slice none 0 0,.slice none 0 0] 47):=⟨_,rfl⟩
 have hb2:Below w.heap.size w W2:=by rw[hW2];exact qv w _ _
 have P2:ze W2 (w.heap.size+1) 47 #[.int .i64 0,.int .i64 0,.slice none 0 0,.int .i64 0,.int .i64 0,.int .i64 0,.slice none 0 0,.slice none 0 0]:=by rw[hW2];exact ze.new_at (by simp)
 have N2:ze W2 w.heap.size 24 #[.string (bs n.op),.string (bs n.s),.int .i64 n.n,.int .i64 n.a,.slice A n.l.length C]:=by rw[hW2];exact(ze.new w _ _).alloc _
 have HW:Hid (W2=(w.alloc (.cells #[.string (bs n.op),.string (bs n.s),.int .i64 n.n,.int .i64 n.a,.slice A n.l.length C] 24)).alloc (.cells #[.int .i64 0,.int .i64 0,.slice none 0 0,.int .i64 0,.int .i64 0,.int .i64 0,.slice none 0 0,.slice none 0 0] 47)):=hW2;have hot:=zx n.op;have c2:=h.has.cell 2;simp only[List.getElem?_toArray,List.getElem?_cons_zero,List.getElem?_cons_succ,evp]at c2;have c2r:=za hb2 c2;have k0r:W2.cell? ⟨bk,ok,none⟩=some (.int .i64 (ks[0]:Nat)):=za hb2 (hI.cells 0 hk0);obtain⟨hK0n',hS1,hS2⟩:=hkid _ (List.getElem_mem hk0);have s0r:=hSz.below hb2 hg _ hK0n';obtain⟨gn,on,Au,Cu,rfl,hgn,hat⟩:=xQ hr (by omega);have hlen:=hr.len;have x1w:w.cell? ⟨gn,on+1*5+2,none⟩=some (.int .i64 (yf n.l 1).n):=(hat 1 (by omega)).1 2 (by decide);have x2w:w.cell? ⟨gn,on+2*5+2,none⟩=some (.int .i64 (yf n.l 2).n):=(hat 2 (by omega)).1 2 (by decide)
 have hR:jU c.names c.parts n ks=if 0<(yf n.l 2).n∧(yf n.l 1).n+(yf n.l 2).n≤(sz c.parts ks[0]:Int)then .ok ⟨2,(yf n.l 2).n.toNat,ks,0,(yf n.l 1).n.toNat,0,[],[]⟩else .error (134,n.a):=by
  unfold jU;rw[if_pos ho,hgd];rfl
 have HR:=zz hR;clear hR;have f0:(n.op== [108,105,110,101,97,114])=true:=by rw[ho];decide
 have f1:(n.op== [99,111,110,99,97,116])=false:=by rw[ho];decide
 have f2:(n.op== [109,105,114,114,111,114])=false:=by rw[ho];decide
 have f3:(n.op== [115,110,97,112,115,104,111,116])=false:=by rw[ho];decide
 obtain⟨NP,hNP⟩:∃NP,NP=c.parts.length:=⟨_,rfl⟩
 have HNP:Hid (NP=c.parts.length):=hNP;rw[←hNP]at hCp1 c2r hK0n'
 obtain⟨Lk,hLk⟩:∃Lk,Lk=ks.length:=⟨_,rfl⟩
 have HLk:Hid (Lk=ks.length):=hLk;rw[←hLk];have hL0:0<Lk:=by omega
 obtain⟨S,hS⟩:∃S,S=sz c.parts ks[0]:=⟨_,rfl⟩
 obtain⟨K0,hK0⟩:∃K0,K0=ks[0]:=⟨_,rfl⟩
 rw[←hS]at s0r hS1 hS2;rw[←hK0]at s0r k0r hK0n';have HS:Hid (S=sz c.parts ks[0]):=hS;have hK0n:K0<NP:=hK0n';rw[←hS]at HR
 obtain⟨x1,hx1'⟩:∃x,x=(yf n.l 1).n:=⟨_,rfl⟩
 obtain⟨x2,hx2'⟩:∃x,x=(yf n.l 2).n:=⟨_,rfl⟩
 rw[←hx1']at HR x1w hx1;rw[←hx2']at HR x2w hx2
 obtain⟨Ln,hLn⟩:∃Ln,Ln=n.l.length:=⟨_,rfl⟩
 rw[←hLn]at N2 HW hl hlen ⊢;have hln1:1<Ln:=by omega
 have hln2:2<Ln:=by omega
 clear hW2 hNP hLk hS hK0 hK0n' c2 hx1' hx2' hLn hat ho hlen hr hI hkid h hl;unfold zR;go_enter Tryz.func144,Tryz.ntmps144
 go_wp2
 rw[←HW.out];refine wp_region_held_drew (S:=λwz=>Below W2.heap.size W2 wz) (by kernel_rfl) ((Below.refl _ W2).drew) (λhHeld=>?_);refine zS 0 (some 13) (.pointer (some ⟨cb,0,none⟩)) hHeld ?_;simp only[Act.put,zk,zj,zl];refine zS 1 (some 14) (.pointer (some ⟨cb,0,none⟩)) hHeld ?_;simp only[Act.put,zk,zj,zl];refine zS 2 (some 15) (.pointer (some ⟨cb,0,none⟩)) hHeld ?_;simp only[Act.put,zk,zj,zl];refine zS 3 (some 16) (.pointer (some ⟨cb,2,none⟩)) hHeld ?_;simp only[Act.put,zk,zj,zl];refine qq 4 (some 17) (.slice (some ⟨g,op,none⟩) NP Cp) rfl rfl (λwz hz=>by have z0:=za hz c2r;unfold execOp;go_simp) hHeld ?_;simp only[Act.put,zk,zj,zl];refine zS 5 (some 18) (.slice (some ⟨bk,ok,none⟩) Lk Ck) hHeld ?_;simp only[Act.put,zk,zj,zl];refine qq 6 (some 19) (.pointer (some ⟨bk,ok,none⟩)) rfl rfl (λwz _=>jw _ _ rfl bk ok 0 Lk Ck rfl rfl hL0 wz) hHeld ?_;simp only[Act.put,zk,zj,zl];refine qq 7 (some 20) (.int .i64 (K0:Nat)) rfl rfl (λwz hz=>by have z0:=za hz k0r;unfold execOp;go_simp) hHeld ?_;simp only[Act.put,zk,zj,zl];refine qq 8 (some 21) (.pointer (some ⟨g,op+K0*8,none⟩)) rfl rfl (λwz _=>qn _ _ rfl g op K0 NP Cp rfl rfl hK0n wz) hHeld ?_;simp only[Act.put,zk,zj,zl];refine zS 9 (some 22) (.pointer (some ⟨g,op+K0*8+1,none⟩)) hHeld ?_;simp only[Act.put,zk,zj,zl];refine qq 10 (some 23) (.int .i64 (S:Nat)) rfl rfl (λwz hz=>by have z0:=za hz s0r;unfold execOp;go_simp) hHeld ?_;simp only[Act.put,zk,zj,zl];refine zS 11 (some 7) (.int .i64 (S:Nat)) hHeld ?_;simp only[Act.put,zk,zj,zl];refine wpAnyH_done (by kernel_rfl) ?_ _;have hb3:Below w.heap.size w W2.drew:=zu hb2;have P3:=zq P2;have N3:=zq N2;have x1r:=za hb3 x1w;have x2r:=za hb3 x2w;have n4:=N3.cell 4;have nc0:=N3.cell 0;have nc3:=N3.cell 3;have ln3:=N3.lt;have lp3:=P3.lt;simp only[jg,jd,jf]at n4 nc0 nc3;clear c2r k0r s0r hb2 P2 N2 HW hHeld x1w x2w;generalize W2.drew=W3 at *
 go_wp2
 refine wp_region_held_drew (S:=λwz=>Below W3.heap.size W3 wz) (by kernel_rfl) ((Below.refl _ W3).drew) (λhHeld=>?_);refine zS 0 (some 28) (.pointer (some ⟨w.heap.size,4,none⟩)) hHeld ?_;simp only[Act.put,zk,zj,zl];refine qq 1 (some 29) (.slice (some ⟨gn,on,none⟩) Ln C) rfl rfl (λwz hz=>by have z0:=za hz n4;unfold execOp;go_simp) hHeld ?_;simp only[Act.put,zk,zj,zl];refine qq 2 (some 30) (.pointer (some ⟨gn,on+1*5,none⟩)) rfl rfl (λwz _=>qF _ _ rfl gn on 1 Ln C rfl rfl hln1 wz) hHeld ?_;simp only[Act.put,zk,zj,zl];refine zS 3 (some 31) (.pointer (some ⟨gn,on+1*5+2,none⟩)) hHeld ?_;simp only[Act.put,zk,zj,zl];refine qq 4 (some 32) (.int .i64 x1) rfl rfl (λwz hz=>by have z0:=za hz x1r;unfold execOp;go_simp) hHeld ?_;simp only[Act.put,zk,zj,zl];refine zS 5 (some 33) (.pointer (some ⟨w.heap.size,4,none⟩)) hHeld ?_;simp only[Act.put,zk,zj,zl];refine qq 6 (some 34) (.slice (some ⟨gn,on,none⟩) Ln C) rfl rfl (λwz hz=>by have z0:=za hz n4;unfold execOp;go_simp) hHeld ?_;simp only[Act.put,zk,zj,zl];refine qq 7 (some 35) (.pointer (some ⟨gn,on+2*5,none⟩)) rfl rfl (λwz _=>qF _ _ rfl gn on 2 Ln C rfl rfl hln2 wz) hHeld ?_;simp only[Act.put,zk,zj,zl];refine zS 8 (some 36) (.pointer (some ⟨gn,on+2*5+2,none⟩)) hHeld ?_;simp only[Act.put,zk,zj,zl];refine qq 9 (some 37) (.int .i64 x2) rfl rfl (λwz hz=>by have z0:=za hz x2r;unfold execOp;go_simp) hHeld ?_;simp only[Act.put,zk,zj,zl];refine zS 10 (some 8) (.int .i64 x1) hHeld ?_;simp only[Act.put,zk,zj,zl];refine zS 11 (some 9) (.int .i64 x2) hHeld ?_;simp only[Act.put,zk,zj,zl];refine wpAnyH_done (by kernel_rfl) ?_ _;have hb4:Below w.heap.size w W3.drew:=zu hb3;have P4:=zq P3;have N4:=zq N3;clear hb3 P3 N3 n4 nc0 nc3 ln3 lp3 x1r x2r hHeld;generalize W3.drew=W3 at *;have hb3:=hb4;have P3:=P4;have nc3:=N4.cell 3;have ln3:=N4.lt;have lp3:=P3.lt;have a0:=P3.cell 0;have b0:=P3.free 0;have a1:=P3.cell 1;have b1:=P3.free 1;have a2:=P3.cell 2;have b2:=P3.free 2;have a3:=P3.cell 3;have b3:=P3.free 3;have a4:=P3.cell 4;have b4:=P3.free 4;have a5:=P3.cell 5;have b5:=P3.free 5;have a6:=P3.cell 6;have b6:=P3.free 6;have a7:=P3.cell 7;have b7:=P3.free 7;have fin:∀(kd s fi ch:Nat) (kk:List Nat),xB w (Gd (.ok ⟨kd,s,kk,0,fi,ch,[],[]⟩)) (.returned (.agg #[.int .i64 (kd:Nat),.int .i64 (s:Nat),.slice none 0 0,.int .i64 0,.int .i64 (fi:Nat),.int .i64 (ch:Nat),.slice none 0 0,.slice none 0 0])) (VG W3 (w.heap.size+1) (.int .i64 (kd:Nat)) (.int .i64 (s:Nat)) (.slice none 0 0) (.int .i64 0) (.int .i64 (fi:Nat)) (.int .i64 (ch:Nat)) (.slice none 0 0) (.slice none 0 0)):=λkd s fi ch kk=>⟨kN hb3 (Nat.le_succ _) _ _ _ _ _ _ _ _,(.slice none 0 0,.slice none 0 0,.slice none 0 0),rfl,⟨none,0,rfl,Nat.le_refl _,by unfold maxLen;omega,.inl rfl⟩,⟨none,0,rfl,Nat.le_refl _,by unfold maxLen;omega,.inl rfl⟩,⟨none,0,rfl,Nat.le_refl _,by unfold maxLen;omega,.inl rfl⟩⟩
 obtain⟨X1,rfl⟩:∃X:Nat,x1=(X:Nat):=⟨x1.toNat,by omega⟩
 obtain⟨X2,rfl⟩:∃X:Nat,x2=(X:Nat):=⟨x2.toNat,by omega⟩
 obtain⟨hX1a,hX1b⟩:=hx1;obtain⟨hX2a,hX2b⟩:=hx2;by_cases hq:0<((X2:Nat):Int)∧((X1:Nat):Int)+((X2:Nat):Int)≤(S:Int)
 ·have HQ:=zz (HR.out.trans (if_pos hq))
  obtain⟨q1,q2⟩:=hq;clear HR;have q1':decide (0<X2)=true:=decide_eq_true (by omega)
  go_wp2_with (first
   |((go_at_call 86)
     refine(qa 134 n.a _).mono ?_;rintro e w5 ⟨rfl,hw5⟩;(obtain rfl:W3=w5:=hw5.symm)))
  exact yq rfl rfl (P3.set8 _ _ _ _ _ _ _ _) rfl (by rw[HQ.out,Int.toNat_natCast,Int.toNat_natCast];exact fin 2 X2 X1 0 ks)
 ·have HQ:=zz (HR.out.trans (if_neg hq))
  clear HR;by_cases q1:0<X2
  ·have q2:¬((X1:Nat):Int)+((X2:Nat):Int)≤(S:Int):=λe=>hq ⟨by omega,e⟩
   have q1':decide (0<X2)=true:=decide_eq_true q1;clear hq
   go_wp2_with (first
    |((go_at_call 86)
      refine(qO 134 n.a _).mono ?_;(rintro e w5 ⟨rfl,rfl⟩)))
   exact⟨rfl,hb3,by rw[HQ.out];rfl⟩
  ·have q1':decide (0<X2)=false:=decide_eq_false q1
   clear hq
   go_wp2_with (first
    |((go_at_call 86)
      refine(qO 134 n.a _).mono ?_;(rintro e w5 ⟨rfl,rfl⟩)))
   exact⟨rfl,hb3,by rw[HQ.out];rfl⟩
end
section
open Go.ChangeShapes Go.WideShapes Go.ChangeAt Go.RowKit Go.MapKept
variable {E:Nat→Prop}
theorem Gj{w W3 w5:World}{p:Pt}{x0 x1 x2:Value}(hb3:Below w.heap.size w W3)(hl:w.heap.size+1<W3.heap.size)(hb5:Below W3.heap.size W3 w5)(hi:Qk w5 (λg=>W3.heap.size≤g) p (x0,x1,x2)):xB w (.ok p) (.returned (.agg #[.int .i64 (p.kind:Nat),.int .i64 (p.size:Nat),x0,.int .i64 (p.dev:Nat),.int .i64 (p.first:Nat),.int .i64 (p.chunk:Nat),x1,x2])) (VG w5 (w.heap.size+1) (.int .i64 (p.kind:Nat)) (.int .i64 (p.size:Nat)) x0 (.int .i64 (p.dev:Nat)) (.int .i64 (p.first:Nat)) (.int .i64 (p.chunk:Nat)) x1 x2):=by
 refine⟨kN (hb3.trans (hb5.mono hb3.size)) (Nat.le_succ _) _ _ _ _ _ _ _ _,(x0,x1,x2),rfl,hi.keep (by simp) (λk hk hB=>⟨?_,Nat.le_trans hb3.size hB⟩)⟩;have hB':W3.heap.size≤k:=hB;have hk2:k≠w.heap.size+1:=by omega
 iterate 8 rw[Below.heap_setCell _ _ _ k hk2]
theorem Y7(ns:xv)(n:Nd)(s:Nat)(ks:List Nat):Gd (qN ns n s ks)=qN ns n s []:=by
 unfold qN
 split
 ·cases jj ns (yy n.l 1) [zT]with
  |error e=>rfl
  |ok m=>dsimp only;split<;>rfl
 ·split
  ·cases jj ns (yy n.l 1) [zT]with
   |error e=>rfl
   |ok m=>dsimp only;generalize dI s=D;split<;>rfl
  ·cases jj ns (yy n.l 1) [zD]with
   |error e=>rfl
   |ok m=>dsimp only;generalize dV s=D;split<;>rfl
theorem gM{w:World}{cb:Nat}{V:CV}{c:Ck}(h:zM E w cb V c)(n:Nd)(A:Option Addr)(C:Nat)(hr:jZ w n A C)(hl:2≤n.l.length)(ho:n.op=vx∨n.op=qH∨n.op=jV)(size:Nat)(hsz:size≤8192)(hn:yz c.names c.parts)(hby:∀x ∈ c.names,x.2.bytes.length≤1000):Calls Tryz.prog 163 #[.pointer (some ⟨cb,0,none⟩),.agg (zR n (.slice A n.l.length C)),.int .i64 (size:Nat)] w (xB w (qN c.names n size [])):=by
 rcases ho with ho|ho|ho
 ·exact dB h n A C hr hl ho size hsz hby (λm e=>gT hn (.inl rfl) e)
 ·exact K6 h n A C hr hl ho size hsz hby
 ·exact fT h n A C hr hl ho size hsz hby
theorem Xw{w:World}{cb:Nat}{V:CV}{c:Ck}{ks:List Nat}{bk ok Ck:Nat}(hI:PIn E w cb V c ks bk ok Ck)(n:Nd)(A:Option Addr)(C:Nat)(hr:jZ w n A C)(ho:n.op=vx∨n.op=qH∨n.op=jV)(hl:2≤n.l.length)(hn:yz c.names c.parts)(hby:∀x ∈ c.names,x.2.bytes.length≤1000):
 Calls Tryz.prog 144 #[.pointer (some ⟨cb,0,none⟩),.agg (zR n (.slice A n.l.length C)),.slice (some ⟨bk,ok,none⟩) ks.length Ck] w (xB w (Gd (jU c.names c.parts n ks))):=by
 have hk0:=hI.pos;have hkid:=hI.kid;have h:=hI.ck;have hp0:0<c.parts.length:=by have:=(hkid _ (List.getElem_mem hk0)).1;omega
 obtain⟨g,op,Cp,evp,hCp1,hCp2,hg,hSz⟩:=h.vp hp0;have hgd:ks.getD 0 0=ks[0]:=by rw[List.getD_eq_getElem?_getD,List.getElem?_eq_getElem hk0];rfl
 obtain⟨W2,hW2⟩:∃W2,W2=(w.alloc (.cells #[.string (bs n.op),.string (bs n.s),.int .i64 n.n,.int .i64 n.a,.slice A n.l.length C] 24)).alloc (.cells #[.int .i64 0,.int .i64 0,.slice none 0 0,.int .i64 0,.int .i64 0,.int .i64 0,.slice none 0 0,.slice none 0 0] 47):=⟨_,rfl⟩
 have hb2:Below w.heap.size w W2:=by rw[hW2];exact qv w _ _
 have P2:ze W2 (w.heap.size+1) 47 #[.int .i64 0,.int .i64 0,.slice none 0 0,.int .i64 0,.int .i64 0,.int .i64 0,.slice none 0 0,.slice none 0 0]:=by rw[hW2];exact ze.new_at (by simp)
 have N2:ze W2 w.heap.size 24 #[.string (bs n.op),.string (bs n.s),.int .i64 n.n,.int .i64 n.a,.slice A n.l.length C]:=by rw[hW2];exact(ze.new w _ _).alloc _
 have HW:Hid (W2=(w.alloc (.cells #[.string (bs n.op),.string (bs n.s),.int .i64 n.n,.int .i64 n.a,.slice A n.l.length C] 24)).alloc (.cells #[.int .i64 0,.int .i64 0,.slice none 0 0,.int .i64 0,.int .i64 0,.int .i64 0,.slice none 0 0,.slice none 0 0] 47)):=hW2;have hot:=zx n.op;have c2:=h.has.cell 2;simp only[List.getElem?_toArray,List.getElem?_cons_zero,List.getElem?_cons_succ,evp]at c2;have c2r:=za hb2 c2;have k0r:W2.cell? ⟨bk,ok,none⟩=some (.int .i64 (ks[0]:Nat)):=za hb2 (hI.cells 0 hk0);obtain⟨hK0n',hS1,hS2⟩:=hkid _ (List.getElem_mem hk0);have s0r:=hSz.below hb2 hg _ hK0n'
 have hR:Gd (jU c.names c.parts n ks)=qN c.names n (sz c.parts ks[0]) []:=by
  rw[←Y7 c.names n (sz c.parts ks[0]) ks];unfold jU;rw[if_neg (by rcases ho with ho|ho|ho<;>rw[ho]<;>decide),if_neg (by rcases ho with ho|ho|ho<;>rw[ho]<;>decide),if_neg (by rcases ho with ho|ho|ho<;>rw[ho]<;>decide),hgd]
 rw[hR];have hse:=λW (hb:Below w.heap.size w W)=>gM (h.keep hb) n A C (hr.grow hb) hl ho (sz c.parts ks[0]) hS2 hn hby
 clear hR;have f0:(n.op== [108,105,110,101,97,114])=false:=by rcases ho with ho|ho|ho<;>rw[ho]<;>decide
 have f1:(n.op== [99,111,110,99,97,116])=false:=by rcases ho with ho|ho|ho<;>rw[ho]<;>decide
 have f2:(n.op== [109,105,114,114,111,114])=false:=by rcases ho with ho|ho|ho<;>rw[ho]<;>decide
 have f3:(n.op== [115,110,97,112,115,104,111,116])=false:=by rcases ho with ho|ho|ho<;>rw[ho]<;>decide
 obtain⟨NP,hNP⟩:∃NP,NP=c.parts.length:=⟨_,rfl⟩
 have HNP:Hid (NP=c.parts.length):=hNP;rw[←hNP]at hCp1 c2r hK0n'
 obtain⟨Lk,hLk⟩:∃Lk,Lk=ks.length:=⟨_,rfl⟩
 have HLk:Hid (Lk=ks.length):=hLk;rw[←hLk];have hL0:0<Lk:=by omega
 obtain⟨S,hS⟩:∃S,S=sz c.parts ks[0]:=⟨_,rfl⟩
 obtain⟨K0,hK0⟩:∃K0,K0=ks[0]:=⟨_,rfl⟩
 rw[←hS]at s0r hS1 hS2;rw[←hK0]at s0r k0r hK0n';have HS:Hid (S=sz c.parts ks[0]):=hS;have hK0n:K0<NP:=hK0n';rw[←hS]at hse ⊢
 obtain⟨Ln,hLn⟩:∃Ln,Ln=n.l.length:=⟨_,rfl⟩
 rw[←hLn]at N2 HW hse ⊢;have hse3:=hse W2.drew (zu hb2)
 obtain⟨R,hR⟩:∃R,R=qN c.names n S []:=⟨_,rfl⟩
 rw[←hR]at hse3 ⊢;unfold zR at hse3;clear hse hR;clear hW2 hNP hLk hS hK0 hK0n' c2 ho hLn hl hr hI hkid h hn hby;unfold zR;go_enter Tryz.func144,Tryz.ntmps144
 go_wp2
 rw[←HW.out];refine wp_region_held_drew (S:=λwz=>Below W2.heap.size W2 wz) (by kernel_rfl) ((Below.refl _ W2).drew) (λhHeld=>?_);refine zS 0 (some 13) (.pointer (some ⟨cb,0,none⟩)) hHeld ?_;simp only[Act.put,zk,zj,zl];refine zS 1 (some 14) (.pointer (some ⟨cb,0,none⟩)) hHeld ?_;simp only[Act.put,zk,zj,zl];refine zS 2 (some 15) (.pointer (some ⟨cb,0,none⟩)) hHeld ?_;simp only[Act.put,zk,zj,zl];refine zS 3 (some 16) (.pointer (some ⟨cb,2,none⟩)) hHeld ?_;simp only[Act.put,zk,zj,zl];refine qq 4 (some 17) (.slice (some ⟨g,op,none⟩) NP Cp) rfl rfl (λwz hz=>by have z0:=za hz c2r;unfold execOp;go_simp) hHeld ?_;simp only[Act.put,zk,zj,zl];refine zS 5 (some 18) (.slice (some ⟨bk,ok,none⟩) Lk Ck) hHeld ?_;simp only[Act.put,zk,zj,zl];refine qq 6 (some 19) (.pointer (some ⟨bk,ok,none⟩)) rfl rfl (λwz _=>jw _ _ rfl bk ok 0 Lk Ck rfl rfl hL0 wz) hHeld ?_;simp only[Act.put,zk,zj,zl];refine qq 7 (some 20) (.int .i64 (K0:Nat)) rfl rfl (λwz hz=>by have z0:=za hz k0r;unfold execOp;go_simp) hHeld ?_;simp only[Act.put,zk,zj,zl];refine qq 8 (some 21) (.pointer (some ⟨g,op+K0*8,none⟩)) rfl rfl (λwz _=>qn _ _ rfl g op K0 NP Cp rfl rfl hK0n wz) hHeld ?_;simp only[Act.put,zk,zj,zl];refine zS 9 (some 22) (.pointer (some ⟨g,op+K0*8+1,none⟩)) hHeld ?_;simp only[Act.put,zk,zj,zl];refine qq 10 (some 23) (.int .i64 (S:Nat)) rfl rfl (λwz hz=>by have z0:=za hz s0r;unfold execOp;go_simp) hHeld ?_;simp only[Act.put,zk,zj,zl];refine zS 11 (some 7) (.int .i64 (S:Nat)) hHeld ?_;simp only[Act.put,zk,zj,zl];refine wpAnyH_done (by kernel_rfl) ?_ _;have hb3:Below w.heap.size w W2.drew:=zu hb2;have P3:=zq P2;have N3:=zq N2;have nc0:=N3.cell 0;have nc1:=N3.cell 1;have nc2:=N3.cell 2;have nc4:=N3.cell 4;have nc3:=N3.cell 3;have ln3:=N3.lt;have lp3:=P3.lt;simp only[jg,jd,jf]at nc0 nc1 nc2 nc3 nc4;have hl3:w.heap.size+1<W2.drew.heap.size:=lp3;clear c2r k0r s0r hb2 P2 N2 HW hHeld;generalize W2.drew=W3 at *;cases R with
 |error er =>
  obtain⟨ec,ek⟩:=er
  go_wp2_with (first
   |((go_at_call 163)
     refine hse3.mono ?_;(rintro e w5 ⟨hb5,rfl⟩)))
  exact⟨rfl,hb3.trans (hb5.mono hb3.size),rfl⟩
 |ok p =>
  go_wp2_with (first
   |((go_at_call 163)
     refine hse3.mono ?_;rintro e w5 ⟨hb5,u,rfl,hi⟩;unfold uW;have P5:=P3.below hb5 P3.lt;have lp5:=P5.lt;have a0:=P5.cell 0;have b0:=P5.free 0;have a1:=P5.cell 1;have b1:=P5.free 1;have a2:=P5.cell 2;have b2:=P5.free 2;have a3:=P5.cell 3;have b3:=P5.free 3;have a4:=P5.cell 4;have b4:=P5.free 4;have a5:=P5.cell 5;have b5:=P5.free 5;have a6:=P5.cell 6;have b6:=P5.free 6;have a7:=P5.cell 7;have b7:=P5.free 7;obtain⟨u0,u1,u2⟩:=u;(have q1:∃A C,u0= .slice A p.kids.length C:=by obtain⟨A,C,e,_⟩:=hi.kids;exact⟨A,C,e⟩);(have q2:∃A C,u1= .slice A p.key.length C:=by obtain⟨A,C,e,_⟩:=hi.key;exact⟨A,C,e⟩);(have q3:∃A C,u2= .slice A p.root.length C:=by obtain⟨A,C,e,_⟩:=hi.root;exact⟨A,C,e⟩);obtain⟨A1,C1,rfl⟩:=q1;obtain⟨A2,C2,rfl⟩:=q2;(obtain⟨A3,C3,rfl⟩:=q3)))
  have TT:=Gj hb3 hl3 hb5 hi;exact yq rfl rfl (P5.set8 (.int .i64 (p.kind:Nat)) (.int .i64 (p.size:Nat)) (.slice A1 p.kids.length C1) (.int .i64 (p.dev:Nat)) (.int .i64 (p.first:Nat)) (.int .i64 (p.chunk:Nat)) (.slice A2 p.key.length C2) (.slice A3 p.root.length C3)) rfl TT
end
section
open Go.ChangeShapes Go.WideShapes Go.ChangeAt Go.RowKit Go.MapKept
variable {E:Nat→Prop}
theorem YY{w:World}{cb:Nat}{V:CV}{c:Ck}{ks:List Nat}{bk ok Ck:Nat}(hI:PIn E w cb V c ks bk ok Ck)(n:Nd)(A:Option Addr)(C:Nat)(hr:jZ w n A C)(ho:n.op=qZ∨n.op=jq):
 Calls Tryz.prog 144 #[.pointer (some ⟨cb,0,none⟩),.agg (zR n (.slice A n.l.length C)),.slice (some ⟨bk,ok,none⟩) ks.length Ck] w (xB w (Gd (jU c.names c.parts n ks))):=by
 have hk0:=hI.pos;have hkid:=hI.kid;have h:=hI.ck;have hp0:0<c.parts.length:=by have:=(hkid _ (List.getElem_mem hk0)).1;omega
 obtain⟨g,op,Cp,evp,hCp1,hCp2,hg,hSz⟩:=h.vp hp0;have hgd:ks.getD 0 0=ks[0]:=by rw[List.getD_eq_getElem?_getD,List.getElem?_eq_getElem hk0];rfl
 obtain⟨W2,hW2⟩:∃W2,W2=(w.alloc (.cells #[.string (bs n.op),.string (bs n.s),.int .i64 n.n,.int .i64 n.a,.slice A n.l.length C] 24)).alloc (.cells #[.int .i64 0,.int .i64 0,.slice none 0 0,.int .i64 0,.int .i64 0,.int .i64 0,.slice none 0 0,.slice none 0 0] 47):=⟨_,rfl⟩
 have hb2:Below w.heap.size w W2:=by rw[hW2];exact qv w _ _
 have P2:ze W2 (w.heap.size+1) 47 #[.int .i64 0,.int .i64 0,.slice none 0 0,.int .i64 0,.int .i64 0,.int .i64 0,.slice none 0 0,.slice none 0 0]:=by rw[hW2];exact ze.new_at (by simp)
 have N2:ze W2 w.heap.size 24 #[.string (bs n.op),.string (bs n.s),.int .i64 n.n,.int .i64 n.a,.slice A n.l.length C]:=by rw[hW2];exact(ze.new w _ _).alloc _
 have HW:Hid (W2=(w.alloc (.cells #[.string (bs n.op),.string (bs n.s),.int .i64 n.n,.int .i64 n.a,.slice A n.l.length C] 24)).alloc (.cells #[.int .i64 0,.int .i64 0,.slice none 0 0,.int .i64 0,.int .i64 0,.int .i64 0,.slice none 0 0,.slice none 0 0] 47)):=hW2;have hot:=zx n.op;have c2:=h.has.cell 2;simp only[List.getElem?_toArray,List.getElem?_cons_zero,List.getElem?_cons_succ,evp]at c2;have c2r:=za hb2 c2;have k0r:W2.cell? ⟨bk,ok,none⟩=some (.int .i64 (ks[0]:Nat)):=za hb2 (hI.cells 0 hk0);obtain⟨hK0n',hS1,hS2⟩:=hkid _ (List.getElem_mem hk0);have s0r:=hSz.below hb2 hg _ hK0n'
 have hR:jU c.names c.parts n ks=if 2≤ks.length∧ks.length≤4 then Ui c.parts n ks else .error (135,n.a):=by
  unfold jU;rw[if_neg (by rcases ho with ho|ho<;>rw[ho]<;>decide),if_pos ho];unfold yN Ui;by_cases q:2≤ks.length∧ks.length≤4
  ·rw[if_neg (not_not_intro q),if_pos q]
  ·rw[if_pos q,if_neg q]
 rw[hR];have hse:=λW (hb:Below w.heap.size w W) (q2:2≤ks.length) (q4:ks.length≤4)=>gu (h.keep hb) n A n.l.length C ks (P:=λ_=>True) (some ⟨bk,ok,none⟩) Ck (.inr ⟨bk,ok,rfl,Nat.lt_of_lt_of_le hI.lt hb.size,trivial,λj hj=>za hb (hI.cells j hj)⟩) q2 q4 hI.cap hI.max (λk hk=>⟨(hkid k hk).1,(hkid k hk).2.2⟩)
 clear hR;have f0:(n.op== [108,105,110,101,97,114])=false:=by rcases ho with ho|ho<;>rw[ho]<;>decide
 obtain⟨b1,hb1⟩:∃b1,(n.op== [99,111,110,99,97,116])=b1:=⟨_,rfl⟩
 have hb1':b1=false→(n.op== [109,105,114,114,111,114])=true:=by
  intro e;rcases ho with ho|ho
  ·rw[ho,e]at hb1;exact absurd hb1 (by decide)
  ·rw[ho];decide
 have hlc:=hI.cap
 obtain⟨NP,hNP⟩:∃NP,NP=c.parts.length:=⟨_,rfl⟩
 have HNP:Hid (NP=c.parts.length):=hNP;rw[←hNP]at hCp1 c2r hK0n'
 obtain⟨Lk,hLk⟩:∃Lk,Lk=ks.length:=⟨_,rfl⟩
 have HLk:Hid (Lk=ks.length):=hLk;rw[←hLk];have hL0:0<Lk:=by omega
 obtain⟨S,hS⟩:∃S,S=sz c.parts ks[0]:=⟨_,rfl⟩
 obtain⟨K0,hK0⟩:∃K0,K0=ks[0]:=⟨_,rfl⟩
 rw[←hS]at s0r hS1 hS2;rw[←hK0]at s0r k0r hK0n';have HS:Hid (S=sz c.parts ks[0]):=hS;have hK0n:K0<NP:=hK0n'
 obtain⟨Ln,hLn⟩:∃Ln,Ln=n.l.length:=⟨_,rfl⟩
 rw[←hLn]at N2 HW hse ⊢;rw[←hLk]at hse hlc;have hse3:=hse W2.drew (zu hb2);have hLki:Lk≤4→(Lk:Int)≤4:=λq=>by omega
 obtain⟨R,hR⟩:∃R,R=Ui c.parts n ks:=⟨_,rfl⟩
 rw[←hR]at hse3 ⊢;unfold zR at hse3;clear hse hR;by_cases q:2≤Lk∧Lk≤4
 ·rw[if_pos q]
  obtain⟨q2,q4⟩:=q;have hse3:=hse3 q2 q4;have q2i:(2:Int)≤(Lk:Int):=by omega
  have q4i:(Lk:Int)≤4:=by omega
  have q2d:decide (2≤Lk)=true:=decide_eq_true q2;have q4d:decide (Lk≤4)=true:=decide_eq_true q4;generalize Gd R=R at *;cases b1
  all_goals
   (try have f2:=hb1' rfl)
   clear hb1';clear hW2 hNP hLk hS hK0 hK0n' c2 ho hLn hr hI hkid h;unfold zR;go_enter Tryz.func144,Tryz.ntmps144
   go_wp2
   rw[←HW.out];refine wp_region_held_drew (S:=λwz=>Below W2.heap.size W2 wz) (by kernel_rfl) ((Below.refl _ W2).drew) (λhHeld=>?_);refine zS 0 (some 13) (.pointer (some ⟨cb,0,none⟩)) hHeld ?_;simp only[Act.put,zk,zj,zl];refine zS 1 (some 14) (.pointer (some ⟨cb,0,none⟩)) hHeld ?_;simp only[Act.put,zk,zj,zl];refine zS 2 (some 15) (.pointer (some ⟨cb,0,none⟩)) hHeld ?_;simp only[Act.put,zk,zj,zl];refine zS 3 (some 16) (.pointer (some ⟨cb,2,none⟩)) hHeld ?_;simp only[Act.put,zk,zj,zl];refine qq 4 (some 17) (.slice (some ⟨g,op,none⟩) NP Cp) rfl rfl (λwz hz=>by have z0:=za hz c2r;unfold execOp;go_simp) hHeld ?_;simp only[Act.put,zk,zj,zl];refine zS 5 (some 18) (.slice (some ⟨bk,ok,none⟩) Lk Ck) hHeld ?_;simp only[Act.put,zk,zj,zl];refine qq 6 (some 19) (.pointer (some ⟨bk,ok,none⟩)) rfl rfl (λwz _=>jw _ _ rfl bk ok 0 Lk Ck rfl rfl hL0 wz) hHeld ?_;simp only[Act.put,zk,zj,zl];refine qq 7 (some 20) (.int .i64 (K0:Nat)) rfl rfl (λwz hz=>by have z0:=za hz k0r;unfold execOp;go_simp) hHeld ?_;simp only[Act.put,zk,zj,zl];refine qq 8 (some 21) (.pointer (some ⟨g,op+K0*8,none⟩)) rfl rfl (λwz _=>qn _ _ rfl g op K0 NP Cp rfl rfl hK0n wz) hHeld ?_;simp only[Act.put,zk,zj,zl];refine zS 9 (some 22) (.pointer (some ⟨g,op+K0*8+1,none⟩)) hHeld ?_;simp only[Act.put,zk,zj,zl];refine qq 10 (some 23) (.int .i64 (S:Nat)) rfl rfl (λwz hz=>by have z0:=za hz s0r;unfold execOp;go_simp) hHeld ?_;simp only[Act.put,zk,zj,zl];refine zS 11 (some 7) (.int .i64 (S:Nat)) hHeld ?_;simp only[Act.put,zk,zj,zl];refine wpAnyH_done (by kernel_rfl) ?_ _;have hb3:Below w.heap.size w W2.drew:=zu hb2;have P3:=zq P2;have N3:=zq N2;have nc0:=N3.cell 0;have nc1:=N3.cell 1;have nc2:=N3.cell 2;have nc4:=N3.cell 4;have nc3:=N3.cell 3;have ln3:=N3.lt;have lp3:=P3.lt;simp only[jg,jd,jf]at nc0 nc1 nc2 nc3 nc4;have hl3:w.heap.size+1<W2.drew.heap.size:=lp3;clear c2r k0r s0r hb2 P2 N2 HW hHeld;generalize W2.drew=W3 at *;cases R with
   |error er =>
    obtain⟨ec,ek⟩:=er
    go_wp2_with (first
     |((go_at_call 86)
       refine(qa 135 n.a _).mono ?_;rintro e w4 ⟨rfl,hw4⟩;(obtain rfl:W3=w4:=hw4.symm))
     |((go_at_call 161)
       refine hse3.mono ?_;(rintro e w5 ⟨hb5,rfl⟩)))
    exact⟨rfl,hb3.trans (hb5.mono hb3.size),rfl⟩
   |ok p =>
    go_wp2_with (first
     |((go_at_call 86)
       refine(qa 135 n.a _).mono ?_;rintro e w4 ⟨rfl,hw4⟩;(obtain rfl:W3=w4:=hw4.symm))
     |((go_at_call 161)
       refine hse3.mono ?_;rintro e w5 ⟨hb5,u,rfl,hi⟩;unfold uW;have P5:=P3.below hb5 P3.lt;have lp5:=P5.lt;have a0:=P5.cell 0;have b0:=P5.free 0;have a1:=P5.cell 1;have b1:=P5.free 1;have a2:=P5.cell 2;have b2:=P5.free 2;have a3:=P5.cell 3;have b3:=P5.free 3;have a4:=P5.cell 4;have b4:=P5.free 4;have a5:=P5.cell 5;have b5:=P5.free 5;have a6:=P5.cell 6;have b6:=P5.free 6;have a7:=P5.cell 7;have b7:=P5.free 7;obtain⟨u0,u1,u2⟩:=u;(have q1:∃A C,u0= .slice A p.kids.length C:=by obtain⟨A,C,e,_⟩:=hi.kids;exact⟨A,C,e⟩);(have q2:∃A C,u1= .slice A p.key.length C:=by obtain⟨A,C,e,_⟩:=hi.key;exact⟨A,C,e⟩);(have q3:∃A C,u2= .slice A p.root.length C:=by obtain⟨A,C,e,_⟩:=hi.root;exact⟨A,C,e⟩);obtain⟨A1,C1,rfl⟩:=q1;obtain⟨A2,C2,rfl⟩:=q2;(obtain⟨A3,C3,rfl⟩:=q3)))
    have TT:=Gj hb3 hl3 hb5 hi;exact yq rfl rfl (P5.set8 (.int .i64 (p.kind:Nat)) (.int .i64 (p.size:Nat)) (.slice A1 p.kids.length C1) (.int .i64 (p.dev:Nat)) (.int .i64 (p.first:Nat)) (.int .i64 (p.chunk:Nat)) (.slice A2 p.key.length C2) (.slice A3 p.root.length C3)) rfl TT
 ·rw[if_neg q]
  clear hse3;cases b1
  all_goals
   (try have f2:=hb1' rfl)
   clear hb1';clear hW2 hNP hLk hS hK0 hK0n' c2 ho hLn hr hI hkid h;unfold zR;go_enter Tryz.func144,Tryz.ntmps144
   go_wp2
   rw[←HW.out];refine wp_region_held_drew (S:=λwz=>Below W2.heap.size W2 wz) (by kernel_rfl) ((Below.refl _ W2).drew) (λhHeld=>?_);refine zS 0 (some 13) (.pointer (some ⟨cb,0,none⟩)) hHeld ?_;simp only[Act.put,zk,zj,zl];refine zS 1 (some 14) (.pointer (some ⟨cb,0,none⟩)) hHeld ?_;simp only[Act.put,zk,zj,zl];refine zS 2 (some 15) (.pointer (some ⟨cb,0,none⟩)) hHeld ?_;simp only[Act.put,zk,zj,zl];refine zS 3 (some 16) (.pointer (some ⟨cb,2,none⟩)) hHeld ?_;simp only[Act.put,zk,zj,zl];refine qq 4 (some 17) (.slice (some ⟨g,op,none⟩) NP Cp) rfl rfl (λwz hz=>by have z0:=za hz c2r;unfold execOp;go_simp) hHeld ?_;simp only[Act.put,zk,zj,zl];refine zS 5 (some 18) (.slice (some ⟨bk,ok,none⟩) Lk Ck) hHeld ?_;simp only[Act.put,zk,zj,zl];refine qq 6 (some 19) (.pointer (some ⟨bk,ok,none⟩)) rfl rfl (λwz _=>jw _ _ rfl bk ok 0 Lk Ck rfl rfl hL0 wz) hHeld ?_;simp only[Act.put,zk,zj,zl];refine qq 7 (some 20) (.int .i64 (K0:Nat)) rfl rfl (λwz hz=>by have z0:=za hz k0r;unfold execOp;go_simp) hHeld ?_;simp only[Act.put,zk,zj,zl];refine qq 8 (some 21) (.pointer (some ⟨g,op+K0*8,none⟩)) rfl rfl (λwz _=>qn _ _ rfl g op K0 NP Cp rfl rfl hK0n wz) hHeld ?_;simp only[Act.put,zk,zj,zl];refine zS 9 (some 22) (.pointer (some ⟨g,op+K0*8+1,none⟩)) hHeld ?_;simp only[Act.put,zk,zj,zl];refine qq 10 (some 23) (.int .i64 (S:Nat)) rfl rfl (λwz hz=>by have z0:=za hz s0r;unfold execOp;go_simp) hHeld ?_;simp only[Act.put,zk,zj,zl];refine zS 11 (some 7) (.int .i64 (S:Nat)) hHeld ?_;simp only[Act.put,zk,zj,zl];refine wpAnyH_done (by kernel_rfl) ?_ _;have hb3:Below w.heap.size w W2.drew:=zu hb2;have P3:=zq P2;have N3:=zq N2;have nc0:=N3.cell 0;have nc1:=N3.cell 1;have nc2:=N3.cell 2;have nc4:=N3.cell 4;have nc3:=N3.cell 3;have ln3:=N3.lt;have lp3:=P3.lt;simp only[jg,jd,jf]at nc0 nc1 nc2 nc3 nc4;clear c2r k0r s0r hb2 P2 N2 HW hHeld;generalize W2.drew=W3 at *;by_cases q2:2≤Lk
   ·have q4:¬Lk≤4:=λe=>q ⟨q2,e⟩
    have q2i:(2:Int)≤(Lk:Int):=by omega
    have q4i:¬(Lk:Int)≤4:=by omega
    have q2d:decide (2≤Lk)=true:=decide_eq_true q2;have q4d:decide (Lk≤4)=false:=decide_eq_false q4;clear q
    go_wp2_with (first
     |((go_at_call 86)
       refine(qO 135 n.a _).mono ?_;(rintro e w4 ⟨rfl,rfl⟩)))
    exact⟨rfl,hb3,rfl⟩
   ·have q2i:¬(2:Int)≤(Lk:Int):=by omega
    have q2d:decide (2≤Lk)=false:=decide_eq_false q2;clear q
    go_wp2_with (first
     |((go_at_call 86)
       refine(qO 135 n.a _).mono ?_;(rintro e w4 ⟨rfl,rfl⟩)))
    exact⟨rfl,hb3,rfl⟩
end
end Go.Proofs.YtebcfkigbbolaaaGreatDoor
