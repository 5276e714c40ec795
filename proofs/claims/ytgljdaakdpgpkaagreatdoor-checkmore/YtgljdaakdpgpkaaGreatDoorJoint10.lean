import Derived.Test.YtgljdaakdpgpkaaGreatDoorJoint09
import Derived.Test.YtgljdaakdpgpkaaGreatDoorJoint03
import Derived.Test.YtgljdaakdpgpkaaGreatDoorJoint07
namespace Go.Proofs.YtgljdaakdpgpkaaGreatDoor
set_option linter.unusedVariables false
set_option maxRecDepth 100000
set_option maxHeartbeats 40000000
section
open Go.ChangeShapes Go.WideShapes Go.ChangeAt Go.RowKit Go.MapKept
variable {E:Nat→Prop}
theorem J9{o:Oper}{a:Act}(x:Operand)(ho:o.op= .slice 45 x none (some (.const (.int .i64 16))) none)(b off C:Nat)(hx:a.eval x= .slice (some ⟨b,off,none⟩) 32 C)(hC:32≤C)(hm:C≤maxLen)(w:World):(execOp a.eval o).run Tryz.prog w= .ok (.value (.slice (some ⟨b,off,none⟩) 16 C)) w:=by
 unfold maxLen at hm;have h1:(16:Int)≤(C:Int):=by omega
 have h2:¬((C:Nat):Int)<16:=by omega
 have h3:¬C<16:=by omega
 have h4:16≤C:=by omega
 unfold execOp;simp only[ho,hx];go_simp
theorem J3{o:Oper}{a:Act}(x:Operand)(ho:o.op= .slice 45 x (some (.const (.int .i64 16))) none none)(b off C:Nat)(hx:a.eval x= .slice (some ⟨b,off,none⟩) 32 C)(hC:32≤C)(hm:C≤maxLen)(w:World):(execOp a.eval o).run Tryz.prog w= .ok (.value (.slice (some ⟨b,off+16,none⟩) 16 (C-16))) w:=by
 unfold maxLen at hm;have h1:(32:Int)≤(C:Int):=by omega
 have h3:¬C<32:=by omega
 have h4:¬C-16=0:=by omega
 have h5:¬C=16:=by omega
 unfold execOp;simp only[ho,hx];go_simp
theorem XM{w:World}{P:Nat→Prop}{A:Option Addr}{l:List UInt8}(h:ya w P A l)(hl:0<l.length):∃b off,A=some ⟨b,off,none⟩∧b<w.heap.size∧P b∧∀j (h:j<l.length),w.cell? ⟨b,off+j,none⟩=some (.int .u8 (l[j].toNat:Nat)):=by
 rcases h with h|h
 ·rw[h]at hl;simp at hl
 ·exact h
theorem Fo{w:World}{cb:Nat}{V:CV}{c:Ck}(h:zG E w cb V c)(n:Nd)(A:Option Addr)(C:Nat)(hr:j0 w n A C)(hl:2≤n.l.length)(ho:n.op=jH)(size:Nat)(hsz:size≤8192)(hby:∀x ∈ c.names,x.2.bytes.length≤1000)(h32:∀m,qm c.names (vn n.l 1) [qj]= .ok m→m.bytes.length=32):Calls Tryz.prog 108 #[.pointer (some ⟨cb,0,none⟩),.agg (qa n (.slice A n.l.length C)),.int .i64 (size:Nat)] w (yH w (qv c.names n size [])):=by
 have hcs:qv c.names n size []=match qm c.names (vn n.l 1) [qj]with | .error e=> .error e| .ok m=>if m.bytes.take 16=m.bytes.drop 16 then .error (135,n.a)else .ok ⟨6,size,[],0,0,0,m.bytes,[]⟩:=by
  unfold qv;rw[if_pos ho];rfl
 rw[hcs];have f0:(n.op== [99,114,121,112,116])=true:=by rw[ho];decide
 have hot:=zp n.op
 obtain⟨W2,hW2⟩:∃W2,W2=(w.alloc (.cells #[.string (bs n.op),.string (bs n.s),.int .i64 n.n,.int .i64 n.a,.slice A n.l.length C] 24)).alloc (.cells #[.int .i64 0,.int .i64 0,.slice none 0 0,.int .i64 0,.int .i64 0,.int .i64 0,.slice none 0 0,.slice none 0 0] 47):=⟨_,rfl⟩
 have hb2:Below w.heap.size w W2:=by rw[hW2];exact vh w _ _
 have P2:zi W2 (w.heap.size+1) 47 #[.int .i64 0,.int .i64 0,.slice none 0 0,.int .i64 0,.int .i64 0,.int .i64 0,.slice none 0 0,.slice none 0 0]:=by rw[hW2];exact zi.new_at (by simp)
 have N2:zi W2 w.heap.size 24 #[.string (bs n.op),.string (bs n.s),.int .i64 n.n,.int .i64 n.a,.slice A n.l.length C]:=by rw[hW2];exact(zi.new w _ _).alloc _
 have hsec:=Q7 (h.keep hb2) n A C (hr.grow hb2) hl qj hby;rw[show bs qj=⟨#[107,101,121]⟩from rfl]at hsec;rw[hW2]at hsec;have HW:Hid (W2=(w.alloc (.cells #[.string (bs n.op),.string (bs n.s),.int .i64 n.n,.int .i64 n.a,.slice A n.l.length C] 24)).alloc (.cells #[.int .i64 0,.int .i64 0,.slice none 0 0,.int .i64 0,.int .i64 0,.int .i64 0,.slice none 0 0,.slice none 0 0] 47)):=hW2;clear hW2 hcs h hr hl ho;generalize n.l.length=L at *;cases hK:qm c.names (vn n.l 1) [qj]with
 |error er =>
  obtain⟨ec,ek⟩:=er;rw[hK]at hsec;clear hK h32;unfold qa at hsec ⊢;go_enter Tryz.func108,Tryz.ntmps108
  go_wp2_with (first
   |((go_at_call 131)
     refine hsec.mono ?_;(rintro e w3 ⟨hb3,rfl⟩)))
  rw[←HW.out]at hb3;exact⟨rfl,hb2.trans (hb3.mono hb2.size),rfl⟩
 |ok m =>
  have hml:=h32 m hK;rw[hK]at hsec;clear hK h32
  obtain⟨R,hR⟩:∃R:Except Er Pt,R=if m.bytes.take 16=m.bytes.drop 16 then .error (135,n.a)else .ok ⟨6,size,[],0,0,0,m.bytes,[]⟩:=⟨_,rfl⟩
  simp only[];rw[←hR];have HR:Hid (R=if m.bytes.take 16=m.bytes.drop 16 then .error (135,n.a)else .ok ⟨6,size,[],0,0,0,m.bytes,[]⟩):=hR;clear hR;unfold qa at hsec ⊢;go_enter Tryz.func108,Tryz.ntmps108
  go_wp2_with (first
   |((go_at_call 131)
     refine hsec.mono ?_;rintro e w3 ⟨hb3,v3,rfl,Ab,Cb,rfl,e2,e3,hBy⟩;rw[←HW.out]at hb3 hBy;have N3:=N2.below hb3 N2.lt;have nc3:=N3.cell 3;have ln3:=N3.lt;obtain⟨bb,bo,rfl,hbb,hbP,hbc⟩:=XM hBy (by rw[hml];decide);(clear hBy)))
  simp only[qt,qu,qr]at nc3;rw[hml]at e2;have hCb:32≤Cb:=e2;have hCm:Cb≤maxLen:=e3
  have heq:∀W,Below w3.heap.size w3 W→Calls Tryz.prog 132 #[.slice (some ⟨bb,bo,none⟩) 16 Cb,.slice (some ⟨bb,bo+16,none⟩) 16 (Cb-16)] W λe w'=>e= .returned (.bool (m.bytes.take 16==m.bytes.drop 16))∧w'=W:=by
   intro W hW
   have e1:Lib.bytesOf ((m.bytes.take 16).map λb=>((b.toNat:Nat):Int))=m.bytes.take 16:=by
    unfold Lib.bytesOf;rw[List.map_map];exact(List.map_congr_left (λb _=>by simp)).trans (List.map_id _)
   have e2':Lib.bytesOf ((m.bytes.drop 16).map λb=>((b.toNat:Nat):Int))=m.bytes.drop 16:=by
    unfold Lib.bytesOf;rw[List.map_map];exact(List.map_congr_left (λb _=>by simp)).trans (List.map_id _)
   have hh:=Tryz.bytes_Equal_all (some ⟨bb,bo,none⟩) (some ⟨bb,bo+16,none⟩) 16 Cb 16 (Cb-16) ((m.bytes.take 16).map λb=>((b.toNat:Nat):Int)) ((m.bytes.drop 16).map λb=>((b.toNat:Nat):Int)) W (by simp[hml]) (by simp[hml]) ?_ ?_
   ·rw[e1,e2']at hh
    exact hh
   ·refine λ_=>⟨bb,bo,rfl,λi hi=>?_⟩
    have hi':i<m.bytes.length:=by rw[hml];omega
    rw[(hW.cell (p:=⟨bb,bo+i,none⟩) hbb).trans (hbc i hi')];simp[List.getD_eq_getElem?_getD,hi,hi']
   ·refine λ_=>⟨bb,bo+16,rfl,λi hi=>?_⟩
    have hi':16+i<m.bytes.length:=by rw[hml];omega
    have:=(hW.cell (p:=⟨bb,bo+(16+i),none⟩) hbb).trans (hbc (16+i) hi');rw[show bo+16+i=bo+(16+i) by omega,this];simp[List.getD_eq_getElem?_getD,hi']
  by_cases hq:m.bytes.take 16=m.bytes.drop 16
  ·have hqb:(m.bytes.take 16==m.bytes.drop 16)=true:=by simpa using hq
   rw[hqb]at heq;have HQ:Hid (m.bytes.take 16=m.bytes.drop 16):=hq;clear hq hqb;refine wp_region_held_drew (S:=λwz=>wz.cell? ⟨w.heap.size,3,none⟩=some (.int .i64 n.a)∧wz.heap=w3.heap∧Below w3.heap.size w3 wz) (by kernel_rfl) (⟨nc3,rfl,(Below.refl _ w3).drew⟩) (λhHeld=>?_);refine zC 0 (some 21) (.slice (some ⟨bb,bo,none⟩) 32 Cb) hHeld ?_;simp only[Act.put,ze,zg,zf];refine zP 1 (some 22) (.slice (some ⟨bb,bo,none⟩) 16 Cb) rfl rfl (λwz _=>J9 _ rfl bb bo Cb rfl hCb hCm wz) hHeld ?_;simp only[Act.put,ze,zg,zf];refine zC 2 (some 23) (.slice (some ⟨bb,bo,none⟩) 32 Cb) hHeld ?_;simp only[Act.put,ze,zg,zf];refine zP 3 (some 24) (.slice (some ⟨bb,bo+16,none⟩) 16 (Cb-16)) rfl rfl (λwz _=>J3 _ rfl bb bo Cb rfl hCb hCm wz) hHeld ?_;simp only[Act.put,ze,zg,zf];refine zC 6 (some 27) (.pointer (some ⟨w.heap.size,3,none⟩)) hHeld ?_;simp only[Act.put,ze,zg,zf];refine zP 7 (some 28) (.int .i64 n.a) rfl rfl (λwz hz=>by obtain⟨z0,z1,z2⟩:=hz;unfold execOp;go_simp) hHeld ?_;simp only[Act.put,ze,zg,zf];refine qn 4 (some 25) 132 #[.slice (some ⟨bb,bo,none⟩) 16 Cb,.slice (some ⟨bb,bo+16,none⟩) 16 (Cb-16)] (by kernel_rfl) rfl rfl (by rfl) (by kernel_rfl) (heq w3.drew (zm (Below.refl _ w3))) ?_;rintro e w4 ⟨rfl,rfl⟩;refine .inl ⟨_,rfl,hHeld,?_⟩;simp only[Act.put,ze,zg,zf];refine zC 5 (some 26) (.bool false) hHeld ?_;simp only[Act.put,ze,zg,zf];refine qn 8 (some 29) 63 #[.bool false,.int .i64 135,.int .i64 n.a] (by kernel_rfl) rfl rfl (by rfl) (by kernel_rfl) (qx 135 n.a w3.drew) ?_;rintro e w5 ⟨rfl,rfl⟩;refine .inr ⟨_,rfl,?_⟩;exact⟨rfl,zm (hb2.trans (hb3.mono hb2.size)),by rw[HR.out,if_pos HQ.out];rfl⟩
  ·have hqb:(m.bytes.take 16==m.bytes.drop 16)=false:=by simpa using hq
   rw[hqb]at heq;have HQ:Hid (¬m.bytes.take 16=m.bytes.drop 16):=hq;clear hq hqb;refine wp_region_held_drew (S:=λwz=>wz.cell? ⟨w.heap.size,3,none⟩=some (.int .i64 n.a)∧wz.heap=w3.heap∧Below w3.heap.size w3 wz) (by kernel_rfl) (⟨nc3,rfl,(Below.refl _ w3).drew⟩) (λhHeld=>?_);refine zC 0 (some 21) (.slice (some ⟨bb,bo,none⟩) 32 Cb) hHeld ?_;simp only[Act.put,ze,zg,zf];refine zP 1 (some 22) (.slice (some ⟨bb,bo,none⟩) 16 Cb) rfl rfl (λwz _=>J9 _ rfl bb bo Cb rfl hCb hCm wz) hHeld ?_;simp only[Act.put,ze,zg,zf];refine zC 2 (some 23) (.slice (some ⟨bb,bo,none⟩) 32 Cb) hHeld ?_;simp only[Act.put,ze,zg,zf];refine zP 3 (some 24) (.slice (some ⟨bb,bo+16,none⟩) 16 (Cb-16)) rfl rfl (λwz _=>J3 _ rfl bb bo Cb rfl hCb hCm wz) hHeld ?_;simp only[Act.put,ze,zg,zf];refine zC 6 (some 27) (.pointer (some ⟨w.heap.size,3,none⟩)) hHeld ?_;simp only[Act.put,ze,zg,zf];refine zP 7 (some 28) (.int .i64 n.a) rfl rfl (λwz hz=>by obtain⟨z0,z1,z2⟩:=hz;unfold execOp;go_simp) hHeld ?_;simp only[Act.put,ze,zg,zf];refine qn 4 (some 25) 132 #[.slice (some ⟨bb,bo,none⟩) 16 Cb,.slice (some ⟨bb,bo+16,none⟩) 16 (Cb-16)] (by kernel_rfl) rfl rfl (by rfl) (by kernel_rfl) (heq w3.drew (zm (Below.refl _ w3))) ?_;rintro e w4 ⟨rfl,rfl⟩;refine .inl ⟨_,rfl,hHeld,?_⟩;simp only[Act.put,ze,zg,zf];refine zC 5 (some 26) (.bool true) hHeld ?_;simp only[Act.put,ze,zg,zf];refine qn 8 (some 29) 63 #[.bool true,.int .i64 135,.int .i64 n.a] (by kernel_rfl) rfl rfl (by rfl) (by kernel_rfl) (zX 135 n.a w3.drew) ?_;rintro e w5 ⟨rfl,rfl⟩;refine .inl ⟨_,rfl,hHeld,?_⟩;simp only[Act.put,ze,zg,zf];refine wpAnyH_done (by kernel_rfl) ?_ _;have P3:=zn (P2.below hb3 P2.lt);have hb03:Below w.heap.size w w3.drew:=zm (hb2.trans (hb3.mono hb2.size));have hBy4:ya w3.drew (λg=>W2.heap.size≤g) (some ⟨bb,bo,none⟩) m.bytes:= .inr ⟨bb,bo,rfl,hbb,hbP,hbc⟩;clear hHeld heq;generalize w3.drew=W4 at P3 hb03 hBy4 ⊢;have lp3:=P3.lt;have a0:=P3.cell 0;have b0:=P3.free 0;have a1:=P3.cell 1;have b1:=P3.free 1;have a2:=P3.cell 2;have b2:=P3.free 2;have a3:=P3.cell 3;have b3:=P3.free 3;have a4:=P3.cell 4;have b4:=P3.free 4;have a5:=P3.cell 5;have b5:=P3.free 5;have a6:=P3.cell 6;have b6:=P3.free 6;have a7:=P3.cell 7;have b7:=P3.free 7
   go_wp2
   have hbf:=KG (g:=w.heap.size+1) hb03 (Nat.le_succ _) (.int .i64 6) (.int .i64 (size:Nat)) (.slice none 0 0) (.int .i64 0) (.int .i64 0) (.int .i64 0) (.slice (some ⟨bb,bo,none⟩) 32 Cb) (.slice none 0 0);refine vA rfl rfl (P3.set8 _ _ _ _ _ _ _ _) rfl ⟨hbf,?_⟩;rw[HR.out,if_neg HQ.out];refine⟨(.slice none 0 0,.slice (some ⟨bb,bo,none⟩) 32 Cb,.slice none 0 0),rfl,?_⟩;refine⟨⟨none,0,rfl,Nat.le_refl _,by unfold maxLen;omega,.inl rfl⟩,⟨some ⟨bb,bo,none⟩,Cb,by rw[hml],by rw[hml];exact e2,e3,?_⟩,⟨none,0,rfl,Nat.le_refl _,by unfold maxLen;omega,.inl rfl⟩⟩
   refine hBy4.keep (by simp) (λk hk hB=>⟨by
    have hk2:k≠w.heap.size+1:=by have:=P2.lt;have hB':W2.heap.size≤k:=hB;omega
    iterate 8 rw[Below.heap_setCell _ _ _ k hk2],Nat.le_trans hb2.size hB⟩)
end
section
open Go.ChangeShapes Go.WideShapes Go.ChangeAt Go.RowKit Go.MapKept
variable {E:Nat→Prop}
theorem FG(n o:Nat)(c:Int)(w:World):Calls Tryz.prog 107 #[.int .i64 (n:Nat),.int .i64 (o:Nat),.int .i64 c] w λe w'=>∃t:Int,e= .returned (.tuple #[.int .i64 t,.int .i64 (Dc n o c:Nat)])∧Below w.heap.size w w':=by
 unfold Dc
 by_cases h:(1≤n∧n≤8192)∧(1≤o∧o≤8192)∧(1≤c∧c≤16)
 ·rw[if_pos h]
  obtain⟨h1,h2,h3⟩:=h
  obtain⟨m,rfl⟩:∃m:Nat,c=(m:Nat):=⟨c.toNat,by omega⟩
  refine(gD n o m w h1 h2 ⟨by omega,by omega⟩).mono ?_;rintro e w' ⟨s,rfl,hg,hb⟩;refine⟨(Dy (yo o m) s:Nat),?_,hb⟩;rw[show s=gx (jU o m) (Z8 (yo o m) m n)from hg.eq (QU _ _),Int.toNat_natCast]
 ·rw[if_neg h]
  refine(uO n o c w (by omega)).mono ?_;rintro e w' ⟨rfl,hb⟩;exact⟨0,rfl,hb⟩
structure fU (E:Nat→Prop) (w:World) (cb:Nat) (V:CV) (c:Ck) (ks:List Nat) (bk ok Ck:Nat):Prop where
 ck:zG E w cb V c
 lt:bk<w.heap.size
 cells:∀j (h:j<ks.length),w.cell? ⟨bk,ok+j,none⟩=some (.int .i64 (ks[j]:Nat))
 pos:0<ks.length
 cap:ks.length≤Ck
 max:Ck≤maxLen
 kid:∀k ∈ ks,yn c.parts k
theorem Ys{w:World}{cb:Nat}{V:CV}{c:Ck}{ks:List Nat}{bk ok Ck:Nat}(hI:fU E w cb V c ks bk ok Ck)(n:Nd)(A:Option Addr)(C:Nat)(hr:j0 w n A C)(ho:n.op=qO)(hl:n.l.length=3)(hx1:0≤(vn n.l 1).n∧(vn n.l 1).n≤999999999)(hx2:0≤(vn n.l 2).n∧(vn n.l 2).n≤999999999):
 Calls Tryz.prog 98 #[.pointer (some ⟨cb,0,none⟩),.agg (qa n (.slice A n.l.length C)),.slice (some ⟨bk,ok,none⟩) ks.length Ck] w (yH w (KT (jd c.names c.parts n ks))):=by
 have hk0:=hI.pos;have hkid:=hI.kid;have h:=hI.ck;have hp0:0<c.parts.length:=by have:=(hkid _ (List.getElem_mem hk0)).1;omega
 obtain⟨g,op,Cp,evp,hCp1,hCp2,hg,hSz⟩:=h.vp hp0;have hgd:ks.getD 0 0=ks[0]:=by rw[List.getD_eq_getElem?_getD,List.getElem?_eq_getElem hk0];rfl
 obtain⟨W2,hW2⟩:∃W2,W2=(w.alloc (.cells #[.string (bs n.op),.string (bs n.s),.int .i64 n.n,.int .i64 n.a,.slice A n.l.length C] 24)).alloc (.cells #[.int .i64 0,.int .i64 0,.slice none 0 0,.int .i64 0,.int .i64 0,.int .i64 0,.slice none 0 0,.slice none 0 0] 47):=⟨_,rfl⟩
 have hb2:Below w.heap.size w W2:=by rw[hW2];exact vh w _ _
 have P2:zi W2 (w.heap.size+1) 47 #[.int .i64 0,.int .i64 0,.slice none 0 0,.int .i64 0,.int .i64 0,.int .i64 0,.slice none 0 0,.slice none 0 0]:=by rw[hW2];exact zi.new_at (by simp)
 have N2:zi W2 w.heap.size 24 #[.string (bs n.op),.string (bs n.s),.int .i64 n.n,.int .i64 n.a,.slice A n.l.length C]:=by rw[hW2];exact(zi.new w _ _).alloc _
 have HW:Hid (W2=(w.alloc (.cells #[.string (bs n.op),.string (bs n.s),.int .i64 n.n,.int .i64 n.a,.slice A n.l.length C] 24)).alloc (.cells #[.int .i64 0,.int .i64 0,.slice none 0 0,.int .i64 0,.int .i64 0,.int .i64 0,.slice none 0 0,.slice none 0 0] 47)):=hW2;have hot:=zp n.op;have c2:=h.has.cell 2;simp only[List.getElem?_toArray,List.getElem?_cons_zero,List.getElem?_cons_succ,evp]at c2;have c2r:=za hb2 c2;have k0r:W2.cell? ⟨bk,ok,none⟩=some (.int .i64 (ks[0]:Nat)):=za hb2 (hI.cells 0 hk0);obtain⟨hK0n',hS1,hS2⟩:=hkid _ (List.getElem_mem hk0);have s0r:=hSz.below hb2 hg _ hK0n';obtain⟨gn,on,Au,Cu,rfl,hgn,hat⟩:=yN hr (by omega);have hlen:=hr.len;have x1w:w.cell? ⟨gn,on+1*5+2,none⟩=some (.int .i64 (vn n.l 1).n):=(hat 1 (by omega)).1 2 (by decide);have x2w:w.cell? ⟨gn,on+2*5+2,none⟩=some (.int .i64 (vn n.l 2).n):=(hat 2 (by omega)).1 2 (by decide)
 have hR:jd c.names c.parts n ks=if 0<(vn n.l 2).n∧(vn n.l 1).n+(vn n.l 2).n≤(sz c.parts ks[0]:Int)then .ok ⟨2,(vn n.l 2).n.toNat,ks,0,(vn n.l 1).n.toNat,0,[],[]⟩else .error (134,n.a):=by
  unfold jd;rw[if_pos ho,hgd];rfl
 have HR:=zk hR;clear hR;have f0:(n.op== [108,105,110,101,97,114])=true:=by rw[ho];decide
 have f1:(n.op== [99,111,110,99,97,116])=false:=by rw[ho];decide
 have f2:(n.op== [109,105,114,114,111,114])=false:=by rw[ho];decide
 have f3:(n.op== [115,110,97,112,115,104,111,116])=false:=by rw[ho];decide
 obtain⟨NP,hNP⟩:∃NP,NP=c.parts.length:=⟨_,rfl⟩
 have HNP:Hid (NP=c.parts.length):=hNP;rw[←hNP]at hCp1 c2r hK0n'
 obtain⟨Lk,hLk⟩:∃Lk,Lk=ks.length:=⟨_,rfl⟩
 have HLk:Hid (Lk=ks.length):=hLk;rw[←hLk];have hL0:0<Lk:=by omega
 obtain⟨S,hS⟩:∃S,S=sz c.parts ks[0]:=⟨_,rfl⟩
 obtain⟨K0,hK0⟩:∃K0,K0=ks[0]:=⟨_,rfl⟩
 rw[←hS]at s0r hS1 hS2;rw[←hK0]at s0r k0r hK0n';have HS:Hid (S=sz c.parts ks[0]):=hS;have hK0n:K0<NP:=hK0n';rw[←hS]at HR
 obtain⟨x1,hx1'⟩:∃x,x=(vn n.l 1).n:=⟨_,rfl⟩
 obtain⟨x2,hx2'⟩:∃x,x=(vn n.l 2).n:=⟨_,rfl⟩
 rw[←hx1']at HR x1w hx1;rw[←hx2']at HR x2w hx2
 obtain⟨Ln,hLn⟩:∃Ln,Ln=n.l.length:=⟨_,rfl⟩
 rw[←hLn]at N2 HW hl hlen ⊢;have hln1:1<Ln:=by omega
 have hln2:2<Ln:=by omega
 clear hW2 hNP hLk hS hK0 hK0n' c2 hx1' hx2' hLn hat ho hlen hr hI hkid h hl;unfold qa;go_enter Tryz.func98,Tryz.ntmps98
 go_wp2
 rw[←HW.out];refine wp_region_held_drew (S:=λwz=>Below W2.heap.size W2 wz) (by kernel_rfl) ((Below.refl _ W2).drew) (λhHeld=>?_);refine zC 0 (some 13) (.pointer (some ⟨cb,0,none⟩)) hHeld ?_;simp only[Act.put,ze,zg,zf];refine zC 1 (some 14) (.pointer (some ⟨cb,0,none⟩)) hHeld ?_;simp only[Act.put,ze,zg,zf];refine zC 2 (some 15) (.pointer (some ⟨cb,0,none⟩)) hHeld ?_;simp only[Act.put,ze,zg,zf];refine zC 3 (some 16) (.pointer (some ⟨cb,2,none⟩)) hHeld ?_;simp only[Act.put,ze,zg,zf];refine zP 4 (some 17) (.slice (some ⟨g,op,none⟩) NP Cp) rfl rfl (λwz hz=>by have z0:=za hz c2r;unfold execOp;go_simp) hHeld ?_;simp only[Act.put,ze,zg,zf];refine zC 5 (some 18) (.slice (some ⟨bk,ok,none⟩) Lk Ck) hHeld ?_;simp only[Act.put,ze,zg,zf];refine zP 6 (some 19) (.pointer (some ⟨bk,ok,none⟩)) rfl rfl (λwz _=>qz _ _ rfl bk ok 0 Lk Ck rfl rfl hL0 wz) hHeld ?_;simp only[Act.put,ze,zg,zf];refine zP 7 (some 20) (.int .i64 (K0:Nat)) rfl rfl (λwz hz=>by have z0:=za hz k0r;unfold execOp;go_simp) hHeld ?_;simp only[Act.put,ze,zg,zf];refine zP 8 (some 21) (.pointer (some ⟨g,op+K0*8,none⟩)) rfl rfl (λwz _=>zJ _ _ rfl g op K0 NP Cp rfl rfl hK0n wz) hHeld ?_;simp only[Act.put,ze,zg,zf];refine zC 9 (some 22) (.pointer (some ⟨g,op+K0*8+1,none⟩)) hHeld ?_;simp only[Act.put,ze,zg,zf];refine zP 10 (some 23) (.int .i64 (S:Nat)) rfl rfl (λwz hz=>by have z0:=za hz s0r;unfold execOp;go_simp) hHeld ?_;simp only[Act.put,ze,zg,zf];refine zC 11 (some 7) (.int .i64 (S:Nat)) hHeld ?_;simp only[Act.put,ze,zg,zf];refine wpAnyH_done (by kernel_rfl) ?_ _;have hb3:Below w.heap.size w W2.drew:=zm hb2;have P3:=zn P2;have N3:=zn N2;have x1r:=za hb3 x1w;have x2r:=za hb3 x2w;have n4:=N3.cell 4;have nc0:=N3.cell 0;have nc3:=N3.cell 3;have ln3:=N3.lt;have lp3:=P3.lt;simp only[qt,qu,qr]at n4 nc0 nc3;clear c2r k0r s0r hb2 P2 N2 HW hHeld x1w x2w;generalize W2.drew=W3 at *
 go_wp2
 refine wp_region_held_drew (S:=λwz=>Below W3.heap.size W3 wz) (by kernel_rfl) ((Below.refl _ W3).drew) (λhHeld=>?_);refine zC 0 (some 28) (.pointer (some ⟨w.heap.size,4,none⟩)) hHeld ?_;simp only[Act.put,ze,zg,zf];refine zP 1 (some 29) (.slice (some ⟨gn,on,none⟩) Ln C) rfl rfl (λwz hz=>by have z0:=za hz n4;unfold execOp;go_simp) hHeld ?_;simp only[Act.put,ze,zg,zf];refine zP 2 (some 30) (.pointer (some ⟨gn,on+1*5,none⟩)) rfl rfl (λwz _=>zK _ _ rfl gn on 1 Ln C rfl rfl hln1 wz) hHeld ?_;simp only[Act.put,ze,zg,zf];refine zC 3 (some 31) (.pointer (some ⟨gn,on+1*5+2,none⟩)) hHeld ?_;simp only[Act.put,ze,zg,zf];refine zP 4 (some 32) (.int .i64 x1) rfl rfl (λwz hz=>by have z0:=za hz x1r;unfold execOp;go_simp) hHeld ?_;simp only[Act.put,ze,zg,zf];refine zC 5 (some 33) (.pointer (some ⟨w.heap.size,4,none⟩)) hHeld ?_;simp only[Act.put,ze,zg,zf];refine zP 6 (some 34) (.slice (some ⟨gn,on,none⟩) Ln C) rfl rfl (λwz hz=>by have z0:=za hz n4;unfold execOp;go_simp) hHeld ?_;simp only[Act.put,ze,zg,zf];refine zP 7 (some 35) (.pointer (some ⟨gn,on+2*5,none⟩)) rfl rfl (λwz _=>zK _ _ rfl gn on 2 Ln C rfl rfl hln2 wz) hHeld ?_;simp only[Act.put,ze,zg,zf];refine zC 8 (some 36) (.pointer (some ⟨gn,on+2*5+2,none⟩)) hHeld ?_;simp only[Act.put,ze,zg,zf];refine zP 9 (some 37) (.int .i64 x2) rfl rfl (λwz hz=>by have z0:=za hz x2r;unfold execOp;go_simp) hHeld ?_;simp only[Act.put,ze,zg,zf];refine zC 10 (some 8) (.int .i64 x1) hHeld ?_;simp only[Act.put,ze,zg,zf];refine zC 11 (some 9) (.int .i64 x2) hHeld ?_;simp only[Act.put,ze,zg,zf];refine wpAnyH_done (by kernel_rfl) ?_ _;have hb4:Below w.heap.size w W3.drew:=zm hb3;have P4:=zn P3;have N4:=zn N3;clear hb3 P3 N3 n4 nc0 nc3 ln3 lp3 x1r x2r hHeld;generalize W3.drew=W3 at *;have hb3:=hb4;have P3:=P4;have nc3:=N4.cell 3;have ln3:=N4.lt;have lp3:=P3.lt;have a0:=P3.cell 0;have b0:=P3.free 0;have a1:=P3.cell 1;have b1:=P3.free 1;have a2:=P3.cell 2;have b2:=P3.free 2;have a3:=P3.cell 3;have b3:=P3.free 3;have a4:=P3.cell 4;have b4:=P3.free 4;have a5:=P3.cell 5;have b5:=P3.free 5;have a6:=P3.cell 6;have b6:=P3.free 6;have a7:=P3.cell 7;have b7:=P3.free 7;have fin:∀(kd s fi ch:Nat) (kk:List Nat),yH w (KT (.ok ⟨kd,s,kk,0,fi,ch,[],[]⟩)) (.returned (.agg #[.int .i64 (kd:Nat),.int .i64 (s:Nat),.slice none 0 0,.int .i64 0,.int .i64 (fi:Nat),.int .i64 (ch:Nat),.slice none 0 0,.slice none 0 0])) (Jw W3 (w.heap.size+1) (.int .i64 (kd:Nat)) (.int .i64 (s:Nat)) (.slice none 0 0) (.int .i64 0) (.int .i64 (fi:Nat)) (.int .i64 (ch:Nat)) (.slice none 0 0) (.slice none 0 0)):=λkd s fi ch kk=>⟨KG hb3 (Nat.le_succ _) _ _ _ _ _ _ _ _,(.slice none 0 0,.slice none 0 0,.slice none 0 0),rfl,⟨none,0,rfl,Nat.le_refl _,by unfold maxLen;omega,.inl rfl⟩,⟨none,0,rfl,Nat.le_refl _,by unfold maxLen;omega,.inl rfl⟩,⟨none,0,rfl,Nat.le_refl _,by unfold maxLen;omega,.inl rfl⟩⟩
 obtain⟨X1,rfl⟩:∃X:Nat,x1=(X:Nat):=⟨x1.toNat,by omega⟩
 obtain⟨X2,rfl⟩:∃X:Nat,x2=(X:Nat):=⟨x2.toNat,by omega⟩
 obtain⟨hX1a,hX1b⟩:=hx1;obtain⟨hX2a,hX2b⟩:=hx2;by_cases hq:0<((X2:Nat):Int)∧((X1:Nat):Int)+((X2:Nat):Int)≤(S:Int)
 ·have HQ:=zk (HR.out.trans (if_pos hq))
  obtain⟨q1,q2⟩:=hq;clear HR;have q1':decide (0<X2)=true:=decide_eq_true (by omega)
  go_wp2_with (first
   |((go_at_call 63)
     refine(zX 134 n.a _).mono ?_;rintro e w5 ⟨rfl,hw5⟩;(obtain rfl:W3=w5:=hw5.symm)))
  exact vA rfl rfl (P3.set8 _ _ _ _ _ _ _ _) rfl (by rw[HQ.out,Int.toNat_natCast,Int.toNat_natCast];exact fin 2 X2 X1 0 ks)
 ·have HQ:=zk (HR.out.trans (if_neg hq))
  clear HR;by_cases q1:0<X2
  ·have q2:¬((X1:Nat):Int)+((X2:Nat):Int)≤(S:Int):=λe=>hq ⟨by omega,e⟩
   have q1':decide (0<X2)=true:=decide_eq_true q1;clear hq
   go_wp2_with (first
    |((go_at_call 63)
      refine(qx 134 n.a _).mono ?_;(rintro e w5 ⟨rfl,rfl⟩)))
   exact⟨rfl,hb3,by rw[HQ.out];rfl⟩
  ·have q1':decide (0<X2)=false:=decide_eq_false q1
   clear hq
   go_wp2_with (first
    |((go_at_call 63)
      refine(qx 134 n.a _).mono ?_;(rintro e w5 ⟨rfl,rfl⟩)))
   exact⟨rfl,hb3,by rw[HQ.out];rfl⟩
end
section
open Go.ChangeShapes Go.WideShapes Go.ChangeAt Go.RowKit Go.MapKept
variable {E:Nat→Prop}
theorem kh{w W3 w5:World}{p:Pt}{x0 x1 x2:Value}(hb3:Below w.heap.size w W3)(hl:w.heap.size+1<W3.heap.size)(hb5:Below W3.heap.size W3 w5)(hi:Zt w5 (λg=>W3.heap.size≤g) p (x0,x1,x2)):yH w (.ok p) (.returned (.agg #[.int .i64 (p.kind:Nat),.int .i64 (p.size:Nat),x0,.int .i64 (p.dev:Nat),.int .i64 (p.first:Nat),.int .i64 (p.chunk:Nat),x1,x2])) (Jw w5 (w.heap.size+1) (.int .i64 (p.kind:Nat)) (.int .i64 (p.size:Nat)) x0 (.int .i64 (p.dev:Nat)) (.int .i64 (p.first:Nat)) (.int .i64 (p.chunk:Nat)) x1 x2):=by
 refine⟨KG (hb3.trans (hb5.mono hb3.size)) (Nat.le_succ _) _ _ _ _ _ _ _ _,(x0,x1,x2),rfl,hi.keep (by simp) (λk hk hB=>⟨?_,Nat.le_trans hb3.size hB⟩)⟩;have hB':W3.heap.size≤k:=hB;have hk2:k≠w.heap.size+1:=by omega
 iterate 8 rw[Below.heap_setCell _ _ _ k hk2]
theorem Vo(ns:vL)(n:Nd)(s:Nat)(ks:List Nat):KT (qv ns n s ks)=qv ns n s []:=by
 unfold qv
 split
 ·cases qm ns (jA n.l 1) [qj]with
  |error e=>rfl
  |ok m=>dsimp only;split<;>rfl
 ·split
  ·cases qm ns (jA n.l 1) [qj]with
   |error e=>rfl
   |ok m=>dsimp only;generalize dI s=D;split<;>rfl
  ·cases qm ns (jA n.l 1) [zS]with
   |error e=>rfl
   |ok m=>dsimp only;generalize dV s=D;split<;>rfl
theorem kW{w:World}{cb:Nat}{V:CV}{c:Ck}(h:zG E w cb V c)(n:Nd)(A:Option Addr)(C:Nat)(hr:j0 w n A C)(hl:2≤n.l.length)(ho:n.op=jH∨n.op=qk∨n.op=js)(size:Nat)(hsz:size≤8192)(hn:vI c.names c.parts)(hby:∀x ∈ c.names,x.2.bytes.length≤1000):Calls Tryz.prog 108 #[.pointer (some ⟨cb,0,none⟩),.agg (qa n (.slice A n.l.length C)),.int .i64 (size:Nat)] w (yH w (qv c.names n size [])):=by
 rcases ho with ho|ho|ho
 ·exact Fo h n A C hr hl ho size hsz hby (λm e=>kO hn (.inl rfl) e)
 ·exact Y1 h n A C hr hl ho size hsz hby
 ·exact Gk h n A C hr hl ho size hsz hby
theorem VS{w:World}{cb:Nat}{V:CV}{c:Ck}{ks:List Nat}{bk ok Ck:Nat}(hI:fU E w cb V c ks bk ok Ck)(n:Nd)(A:Option Addr)(C:Nat)(hr:j0 w n A C)(ho:n.op=jH∨n.op=qk∨n.op=js)(hl:2≤n.l.length)(hn:vI c.names c.parts)(hby:∀x ∈ c.names,x.2.bytes.length≤1000):
 Calls Tryz.prog 98 #[.pointer (some ⟨cb,0,none⟩),.agg (qa n (.slice A n.l.length C)),.slice (some ⟨bk,ok,none⟩) ks.length Ck] w (yH w (KT (jd c.names c.parts n ks))):=by
 have hk0:=hI.pos;have hkid:=hI.kid;have h:=hI.ck;have hp0:0<c.parts.length:=by have:=(hkid _ (List.getElem_mem hk0)).1;omega
 obtain⟨g,op,Cp,evp,hCp1,hCp2,hg,hSz⟩:=h.vp hp0;have hgd:ks.getD 0 0=ks[0]:=by rw[List.getD_eq_getElem?_getD,List.getElem?_eq_getElem hk0];rfl
 obtain⟨W2,hW2⟩:∃W2,W2=(w.alloc (.cells #[.string (bs n.op),.string (bs n.s),.int .i64 n.n,.int .i64 n.a,.slice A n.l.length C] 24)).alloc (.cells #[.int .i64 0,.int .i64 0,.slice none 0 0,.int .i64 0,.int .i64 0,.int .i64 0,.slice none 0 0,.slice none 0 0] 47):=⟨_,rfl⟩
 have hb2:Below w.heap.size w W2:=by rw[hW2];exact vh w _ _
 have P2:zi W2 (w.heap.size+1) 47 #[.int .i64 0,.int .i64 0,.slice none 0 0,.int .i64 0,.int .i64 0,.int .i64 0,.slice none 0 0,.slice none 0 0]:=by rw[hW2];exact zi.new_at (by simp)
 have N2:zi W2 w.heap.size 24 #[.string (bs n.op),.string (bs n.s),.int .i64 n.n,.int .i64 n.a,.slice A n.l.length C]:=by rw[hW2];exact(zi.new w _ _).alloc _
 have HW:Hid (W2=(w.alloc (.cells #[.string (bs n.op),.string (bs n.s),.int .i64 n.n,.int .i64 n.a,.slice A n.l.length C] 24)).alloc (.cells #[.int .i64 0,.int .i64 0,.slice none 0 0,.int .i64 0,.int .i64 0,.int .i64 0,.slice none 0 0,.slice none 0 0] 47)):=hW2;have hot:=zp n.op;have c2:=h.has.cell 2;simp only[List.getElem?_toArray,List.getElem?_cons_zero,List.getElem?_cons_succ,evp]at c2;have c2r:=za hb2 c2;have k0r:W2.cell? ⟨bk,ok,none⟩=some (.int .i64 (ks[0]:Nat)):=za hb2 (hI.cells 0 hk0);obtain⟨hK0n',hS1,hS2⟩:=hkid _ (List.getElem_mem hk0);have s0r:=hSz.below hb2 hg _ hK0n'
 have hR:KT (jd c.names c.parts n ks)=qv c.names n (sz c.parts ks[0]) []:=by
  rw[←Vo c.names n (sz c.parts ks[0]) ks];unfold jd;rw[if_neg (by rcases ho with ho|ho|ho<;>rw[ho]<;>decide),if_neg (by rcases ho with ho|ho|ho<;>rw[ho]<;>decide),if_neg (by rcases ho with ho|ho|ho<;>rw[ho]<;>decide),hgd]
 rw[hR];have hse:=λW (hb:Below w.heap.size w W)=>kW (h.keep hb) n A C (hr.grow hb) hl ho (sz c.parts ks[0]) hS2 hn hby
 clear hR;have f0:(n.op== [108,105,110,101,97,114])=false:=by rcases ho with ho|ho|ho<;>rw[ho]<;>decide
 have f1:(n.op== [99,111,110,99,97,116])=false:=by rcases ho with ho|ho|ho<;>rw[ho]<;>decide
 have f2:(n.op== [109,105,114,114,111,114])=false:=by rcases ho with ho|ho|ho<;>rw[ho]<;>decide
 have f3:(n.op== [115,110,97,112,115,104,111,116])=false:=by rcases ho with ho|ho|ho<;>rw[ho]<;>decide
 obtain⟨NP,hNP⟩:∃NP,NP=c.parts.length:=⟨_,rfl⟩
 have HNP:Hid (NP=c.parts.length):=hNP;rw[←hNP]at hCp1 c2r hK0n'
 obtain⟨Lk,hLk⟩:∃Lk,Lk=ks.length:=⟨_,rfl⟩
 have HLk:Hid (Lk=ks.length):=hLk;rw[←hLk];have hL0:0<Lk:=by omega
 obtain⟨S,hS⟩:∃S,S=sz c.parts ks[0]:=⟨_,rfl⟩
 obtain⟨K0,hK0⟩:∃K0,K0=ks[0]:=⟨_,rfl⟩
 rw[←hS]at s0r hS1 hS2;rw[←hK0]at s0r k0r hK0n';have HS:Hid (S=sz c.parts ks[0]):=hS;have hK0n:K0<NP:=hK0n';rw[←hS]at hse ⊢
 obtain⟨Ln,hLn⟩:∃Ln,Ln=n.l.length:=⟨_,rfl⟩
 rw[←hLn]at N2 HW hse ⊢;have hse3:=hse W2.drew (zm hb2)
 obtain⟨R,hR⟩:∃R,R=qv c.names n S []:=⟨_,rfl⟩
 rw[←hR]at hse3 ⊢;unfold qa at hse3;clear hse hR;clear hW2 hNP hLk hS hK0 hK0n' c2 ho hLn hl hr hI hkid h hn hby;unfold qa;go_enter Tryz.func98,Tryz.ntmps98
 go_wp2
 rw[←HW.out];refine wp_region_held_drew (S:=λwz=>Below W2.heap.size W2 wz) (by kernel_rfl) ((Below.refl _ W2).drew) (λhHeld=>?_);refine zC 0 (some 13) (.pointer (some ⟨cb,0,none⟩)) hHeld ?_;simp only[Act.put,ze,zg,zf];refine zC 1 (some 14) (.pointer (some ⟨cb,0,none⟩)) hHeld ?_;simp only[Act.put,ze,zg,zf];refine zC 2 (some 15) (.pointer (some ⟨cb,0,none⟩)) hHeld ?_;simp only[Act.put,ze,zg,zf];refine zC 3 (some 16) (.pointer (some ⟨cb,2,none⟩)) hHeld ?_;simp only[Act.put,ze,zg,zf];refine zP 4 (some 17) (.slice (some ⟨g,op,none⟩) NP Cp) rfl rfl (λwz hz=>by have z0:=za hz c2r;unfold execOp;go_simp) hHeld ?_;simp only[Act.put,ze,zg,zf];refine zC 5 (some 18) (.slice (some ⟨bk,ok,none⟩) Lk Ck) hHeld ?_;simp only[Act.put,ze,zg,zf];refine zP 6 (some 19) (.pointer (some ⟨bk,ok,none⟩)) rfl rfl (λwz _=>qz _ _ rfl bk ok 0 Lk Ck rfl rfl hL0 wz) hHeld ?_;simp only[Act.put,ze,zg,zf];refine zP 7 (some 20) (.int .i64 (K0:Nat)) rfl rfl (λwz hz=>by have z0:=za hz k0r;unfold execOp;go_simp) hHeld ?_;simp only[Act.put,ze,zg,zf];refine zP 8 (some 21) (.pointer (some ⟨g,op+K0*8,none⟩)) rfl rfl (λwz _=>zJ _ _ rfl g op K0 NP Cp rfl rfl hK0n wz) hHeld ?_;simp only[Act.put,ze,zg,zf];refine zC 9 (some 22) (.pointer (some ⟨g,op+K0*8+1,none⟩)) hHeld ?_;simp only[Act.put,ze,zg,zf];refine zP 10 (some 23) (.int .i64 (S:Nat)) rfl rfl (λwz hz=>by have z0:=za hz s0r;unfold execOp;go_simp) hHeld ?_;simp only[Act.put,ze,zg,zf];refine zC 11 (some 7) (.int .i64 (S:Nat)) hHeld ?_;simp only[Act.put,ze,zg,zf];refine wpAnyH_done (by kernel_rfl) ?_ _;have hb3:Below w.heap.size w W2.drew:=zm hb2;have P3:=zn P2;have N3:=zn N2;have nc0:=N3.cell 0;have nc1:=N3.cell 1;have nc2:=N3.cell 2;have nc4:=N3.cell 4;have nc3:=N3.cell 3;have ln3:=N3.lt;have lp3:=P3.lt;simp only[qt,qu,qr]at nc0 nc1 nc2 nc3 nc4;have hl3:w.heap.size+1<W2.drew.heap.size:=lp3;clear c2r k0r s0r hb2 P2 N2 HW hHeld;generalize W2.drew=W3 at *;cases R with
 |error er =>
  obtain⟨ec,ek⟩:=er
  go_wp2_with (first
   |((go_at_call 108)
     refine hse3.mono ?_;(rintro e w5 ⟨hb5,rfl⟩)))
  exact⟨rfl,hb3.trans (hb5.mono hb3.size),rfl⟩
 |ok p =>
  go_wp2_with (first
   |((go_at_call 108)
     refine hse3.mono ?_;rintro e w5 ⟨hb5,u,rfl,hi⟩;unfold Us;have P5:=P3.below hb5 P3.lt;have lp5:=P5.lt;have a0:=P5.cell 0;have b0:=P5.free 0;have a1:=P5.cell 1;have b1:=P5.free 1;have a2:=P5.cell 2;have b2:=P5.free 2;have a3:=P5.cell 3;have b3:=P5.free 3;have a4:=P5.cell 4;have b4:=P5.free 4;have a5:=P5.cell 5;have b5:=P5.free 5;have a6:=P5.cell 6;have b6:=P5.free 6;have a7:=P5.cell 7;have b7:=P5.free 7;obtain⟨u0,u1,u2⟩:=u;(have q1:∃A C,u0= .slice A p.kids.length C:=by obtain⟨A,C,e,_⟩:=hi.kids;exact⟨A,C,e⟩);(have q2:∃A C,u1= .slice A p.key.length C:=by obtain⟨A,C,e,_⟩:=hi.key;exact⟨A,C,e⟩);(have q3:∃A C,u2= .slice A p.root.length C:=by obtain⟨A,C,e,_⟩:=hi.root;exact⟨A,C,e⟩);obtain⟨A1,C1,rfl⟩:=q1;obtain⟨A2,C2,rfl⟩:=q2;(obtain⟨A3,C3,rfl⟩:=q3)))
  have TT:=kh hb3 hl3 hb5 hi;exact vA rfl rfl (P5.set8 (.int .i64 (p.kind:Nat)) (.int .i64 (p.size:Nat)) (.slice A1 p.kids.length C1) (.int .i64 (p.dev:Nat)) (.int .i64 (p.first:Nat)) (.int .i64 (p.chunk:Nat)) (.slice A2 p.key.length C2) (.slice A3 p.root.length C3)) rfl TT
end
section
open Go.ChangeShapes Go.WideShapes Go.ChangeAt Go.RowKit Go.MapKept
variable {E:Nat→Prop}
theorem VY{w:World}{cb:Nat}{V:CV}{c:Ck}{ks:List Nat}{bk ok Ck:Nat}(hI:fU E w cb V c ks bk ok Ck)(n:Nd)(A:Option Addr)(C:Nat)(hr:j0 w n A C)(ho:n.op=qE∨n.op=qW):
 Calls Tryz.prog 98 #[.pointer (some ⟨cb,0,none⟩),.agg (qa n (.slice A n.l.length C)),.slice (some ⟨bk,ok,none⟩) ks.length Ck] w (yH w (KT (jd c.names c.parts n ks))):=by
 have hk0:=hI.pos;have hkid:=hI.kid;have h:=hI.ck;have hp0:0<c.parts.length:=by have:=(hkid _ (List.getElem_mem hk0)).1;omega
 obtain⟨g,op,Cp,evp,hCp1,hCp2,hg,hSz⟩:=h.vp hp0;have hgd:ks.getD 0 0=ks[0]:=by rw[List.getD_eq_getElem?_getD,List.getElem?_eq_getElem hk0];rfl
 obtain⟨W2,hW2⟩:∃W2,W2=(w.alloc (.cells #[.string (bs n.op),.string (bs n.s),.int .i64 n.n,.int .i64 n.a,.slice A n.l.length C] 24)).alloc (.cells #[.int .i64 0,.int .i64 0,.slice none 0 0,.int .i64 0,.int .i64 0,.int .i64 0,.slice none 0 0,.slice none 0 0] 47):=⟨_,rfl⟩
 have hb2:Below w.heap.size w W2:=by rw[hW2];exact vh w _ _
 have P2:zi W2 (w.heap.size+1) 47 #[.int .i64 0,.int .i64 0,.slice none 0 0,.int .i64 0,.int .i64 0,.int .i64 0,.slice none 0 0,.slice none 0 0]:=by rw[hW2];exact zi.new_at (by simp)
 have N2:zi W2 w.heap.size 24 #[.string (bs n.op),.string (bs n.s),.int .i64 n.n,.int .i64 n.a,.slice A n.l.length C]:=by rw[hW2];exact(zi.new w _ _).alloc _
 have HW:Hid (W2=(w.alloc (.cells #[.string (bs n.op),.string (bs n.s),.int .i64 n.n,.int .i64 n.a,.slice A n.l.length C] 24)).alloc (.cells #[.int .i64 0,.int .i64 0,.slice none 0 0,.int .i64 0,.int .i64 0,.int .i64 0,.slice none 0 0,.slice none 0 0] 47)):=hW2;have hot:=zp n.op;have c2:=h.has.cell 2;simp only[List.getElem?_toArray,List.getElem?_cons_zero,List.getElem?_cons_succ,evp]at c2;have c2r:=za hb2 c2;have k0r:W2.cell? ⟨bk,ok,none⟩=some (.int .i64 (ks[0]:Nat)):=za hb2 (hI.cells 0 hk0);obtain⟨hK0n',hS1,hS2⟩:=hkid _ (List.getElem_mem hk0);have s0r:=hSz.below hb2 hg _ hK0n'
 have hR:jd c.names c.parts n ks=if 2≤ks.length∧ks.length≤4 then XZ c.parts n ks else .error (135,n.a):=by
  unfold jd;rw[if_neg (by rcases ho with ho|ho<;>rw[ho]<;>decide),if_pos ho];unfold vu XZ;by_cases q:2≤ks.length∧ks.length≤4
  ·rw[if_neg (not_not_intro q),if_pos q]
  ·rw[if_pos q,if_neg q]
 rw[hR];have hse:=λW (hb:Below w.heap.size w W) (q2:2≤ks.length) (q4:ks.length≤4)=>UW (h.keep hb) n A n.l.length C ks (P:=λ_=>True) (some ⟨bk,ok,none⟩) Ck (.inr ⟨bk,ok,rfl,Nat.lt_of_lt_of_le hI.lt hb.size,trivial,λj hj=>za hb (hI.cells j hj)⟩) q2 q4 hI.cap hI.max (λk hk=>⟨(hkid k hk).1,(hkid k hk).2.2⟩)
 clear hR;have f0:(n.op== [108,105,110,101,97,114])=false:=by rcases ho with ho|ho<;>rw[ho]<;>decide
 obtain⟨b1,hb1⟩:∃b1,(n.op== [99,111,110,99,97,116])=b1:=⟨_,rfl⟩
 have hb1':b1=false→(n.op== [109,105,114,114,111,114])=true:=by
  intro e;rcases ho with ho|ho
  ·rw[ho,e]at hb1;exact absurd hb1 (by decide)
  ·rw[ho];decide
 have hlc:=hI.cap
 obtain⟨NP,hNP⟩:∃NP,NP=c.parts.length:=⟨_,rfl⟩
 have HNP:Hid (NP=c.parts.length):=hNP;rw[←hNP]at hCp1 c2r hK0n'
 obtain⟨Lk,hLk⟩:∃Lk,Lk=ks.length:=⟨_,rfl⟩
 have HLk:Hid (Lk=ks.length):=hLk;rw[←hLk];have hL0:0<Lk:=by omega
 obtain⟨S,hS⟩:∃S,S=sz c.parts ks[0]:=⟨_,rfl⟩
 obtain⟨K0,hK0⟩:∃K0,K0=ks[0]:=⟨_,rfl⟩
 rw[←hS]at s0r hS1 hS2;rw[←hK0]at s0r k0r hK0n';have HS:Hid (S=sz c.parts ks[0]):=hS;have hK0n:K0<NP:=hK0n'
 obtain⟨Ln,hLn⟩:∃Ln,Ln=n.l.length:=⟨_,rfl⟩
 rw[←hLn]at N2 HW hse ⊢;rw[←hLk]at hse hlc;have hse3:=hse W2.drew (zm hb2);have hLki:Lk≤4→(Lk:Int)≤4:=λq=>by omega
 obtain⟨R,hR⟩:∃R,R=XZ c.parts n ks:=⟨_,rfl⟩
 rw[←hR]at hse3 ⊢;unfold qa at hse3;clear hse hR;by_cases q:2≤Lk∧Lk≤4
 ·rw[if_pos q]
  obtain⟨q2,q4⟩:=q;have hse3:=hse3 q2 q4;have q2i:(2:Int)≤(Lk:Int):=by omega
  have q4i:(Lk:Int)≤4:=by omega
  have q2d:decide (2≤Lk)=true:=decide_eq_true q2;have q4d:decide (Lk≤4)=true:=decide_eq_true q4;generalize KT R=R at *;cases b1
  all_goals
   (try have f2:=hb1' rfl)
   clear hb1';clear hW2 hNP hLk hS hK0 hK0n' c2 ho hLn hr hI hkid h;unfold qa;go_enter Tryz.func98,Tryz.ntmps98
   go_wp2
   rw[←HW.out];refine wp_region_held_drew (S:=λwz=>Below W2.heap.size W2 wz) (by kernel_rfl) ((Below.refl _ W2).drew) (λhHeld=>?_);refine zC 0 (some 13) (.pointer (some ⟨cb,0,none⟩)) hHeld ?_;simp only[Act.put,ze,zg,zf];refine zC 1 (some 14) (.pointer (some ⟨cb,0,none⟩)) hHeld ?_;simp only[Act.put,ze,zg,zf];refine zC 2 (some 15) (.pointer (some ⟨cb,0,none⟩)) hHeld ?_;simp only[Act.put,ze,zg,zf];refine zC 3 (some 16) (.pointer (some ⟨cb,2,none⟩)) hHeld ?_;simp only[Act.put,ze,zg,zf];refine zP 4 (some 17) (.slice (some ⟨g,op,none⟩) NP Cp) rfl rfl (λwz hz=>by have z0:=za hz c2r;unfold execOp;go_simp) hHeld ?_;simp only[Act.put,ze,zg,zf];refine zC 5 (some 18) (.slice (some ⟨bk,ok,none⟩) Lk Ck) hHeld ?_;simp only[Act.put,ze,zg,zf];refine zP 6 (some 19) (.pointer (some ⟨bk,ok,none⟩)) rfl rfl (λwz _=>qz _ _ rfl bk ok 0 Lk Ck rfl rfl hL0 wz) hHeld ?_;simp only[Act.put,ze,zg,zf];refine zP 7 (some 20) (.int .i64 (K0:Nat)) rfl rfl (λwz hz=>by have z0:=za hz k0r;unfold execOp;go_simp) hHeld ?_;simp only[Act.put,ze,zg,zf];refine zP 8 (some 21) (.pointer (some ⟨g,op+K0*8,none⟩)) rfl rfl (λwz _=>zJ _ _ rfl g op K0 NP Cp rfl rfl hK0n wz) hHeld ?_;simp only[Act.put,ze,zg,zf];refine zC 9 (some 22) (.pointer (some ⟨g,op+K0*8+1,none⟩)) hHeld ?_;simp only[Act.put,ze,zg,zf];refine zP 10 (some 23) (.int .i64 (S:Nat)) rfl rfl (λwz hz=>by have z0:=za hz s0r;unfold execOp;go_simp) hHeld ?_;simp only[Act.put,ze,zg,zf];refine zC 11 (some 7) (.int .i64 (S:Nat)) hHeld ?_;simp only[Act.put,ze,zg,zf];refine wpAnyH_done (by kernel_rfl) ?_ _;have hb3:Below w.heap.size w W2.drew:=zm hb2;have P3:=zn P2;have N3:=zn N2;have nc0:=N3.cell 0;have nc1:=N3.cell 1;have nc2:=N3.cell 2;have nc4:=N3.cell 4;have nc3:=N3.cell 3;have ln3:=N3.lt;have lp3:=P3.lt;simp only[qt,qu,qr]at nc0 nc1 nc2 nc3 nc4;have hl3:w.heap.size+1<W2.drew.heap.size:=lp3;clear c2r k0r s0r hb2 P2 N2 HW hHeld;generalize W2.drew=W3 at *;cases R with
   |error er =>
    obtain⟨ec,ek⟩:=er
    go_wp2_with (first
     |((go_at_call 63)
       refine(zX 135 n.a _).mono ?_;rintro e w4 ⟨rfl,hw4⟩;(obtain rfl:W3=w4:=hw4.symm))
     |((go_at_call 106)
       refine hse3.mono ?_;(rintro e w5 ⟨hb5,rfl⟩)))
    exact⟨rfl,hb3.trans (hb5.mono hb3.size),rfl⟩
   |ok p =>
    go_wp2_with (first
     |((go_at_call 63)
       refine(zX 135 n.a _).mono ?_;rintro e w4 ⟨rfl,hw4⟩;(obtain rfl:W3=w4:=hw4.symm))
     |((go_at_call 106)
       refine hse3.mono ?_;rintro e w5 ⟨hb5,u,rfl,hi⟩;unfold Us;have P5:=P3.below hb5 P3.lt;have lp5:=P5.lt;have a0:=P5.cell 0;have b0:=P5.free 0;have a1:=P5.cell 1;have b1:=P5.free 1;have a2:=P5.cell 2;have b2:=P5.free 2;have a3:=P5.cell 3;have b3:=P5.free 3;have a4:=P5.cell 4;have b4:=P5.free 4;have a5:=P5.cell 5;have b5:=P5.free 5;have a6:=P5.cell 6;have b6:=P5.free 6;have a7:=P5.cell 7;have b7:=P5.free 7;obtain⟨u0,u1,u2⟩:=u;(have q1:∃A C,u0= .slice A p.kids.length C:=by obtain⟨A,C,e,_⟩:=hi.kids;exact⟨A,C,e⟩);(have q2:∃A C,u1= .slice A p.key.length C:=by obtain⟨A,C,e,_⟩:=hi.key;exact⟨A,C,e⟩);(have q3:∃A C,u2= .slice A p.root.length C:=by obtain⟨A,C,e,_⟩:=hi.root;exact⟨A,C,e⟩);obtain⟨A1,C1,rfl⟩:=q1;obtain⟨A2,C2,rfl⟩:=q2;(obtain⟨A3,C3,rfl⟩:=q3)))
    have TT:=kh hb3 hl3 hb5 hi;exact vA rfl rfl (P5.set8 (.int .i64 (p.kind:Nat)) (.int .i64 (p.size:Nat)) (.slice A1 p.kids.length C1) (.int .i64 (p.dev:Nat)) (.int .i64 (p.first:Nat)) (.int .i64 (p.chunk:Nat)) (.slice A2 p.key.length C2) (.slice A3 p.root.length C3)) rfl TT
 ·rw[if_neg q]
  clear hse3;cases b1
  all_goals
   (try have f2:=hb1' rfl)
   clear hb1';clear hW2 hNP hLk hS hK0 hK0n' c2 ho hLn hr hI hkid h;unfold qa;go_enter Tryz.func98,Tryz.ntmps98
   go_wp2
   rw[←HW.out];refine wp_region_held_drew (S:=λwz=>Below W2.heap.size W2 wz) (by kernel_rfl) ((Below.refl _ W2).drew) (λhHeld=>?_);refine zC 0 (some 13) (.pointer (some ⟨cb,0,none⟩)) hHeld ?_;simp only[Act.put,ze,zg,zf];refine zC 1 (some 14) (.pointer (some ⟨cb,0,none⟩)) hHeld ?_;simp only[Act.put,ze,zg,zf];refine zC 2 (some 15) (.pointer (some ⟨cb,0,none⟩)) hHeld ?_;simp only[Act.put,ze,zg,zf];refine zC 3 (some 16) (.pointer (some ⟨cb,2,none⟩)) hHeld ?_;simp only[Act.put,ze,zg,zf];refine zP 4 (some 17) (.slice (some ⟨g,op,none⟩) NP Cp) rfl rfl (λwz hz=>by have z0:=za hz c2r;unfold execOp;go_simp) hHeld ?_;simp only[Act.put,ze,zg,zf];refine zC 5 (some 18) (.slice (some ⟨bk,ok,none⟩) Lk Ck) hHeld ?_;simp only[Act.put,ze,zg,zf];refine zP 6 (some 19) (.pointer (some ⟨bk,ok,none⟩)) rfl rfl (λwz _=>qz _ _ rfl bk ok 0 Lk Ck rfl rfl hL0 wz) hHeld ?_;simp only[Act.put,ze,zg,zf];refine zP 7 (some 20) (.int .i64 (K0:Nat)) rfl rfl (λwz hz=>by have z0:=za hz k0r;unfold execOp;go_simp) hHeld ?_;simp only[Act.put,ze,zg,zf];refine zP 8 (some 21) (.pointer (some ⟨g,op+K0*8,none⟩)) rfl rfl (λwz _=>zJ _ _ rfl g op K0 NP Cp rfl rfl hK0n wz) hHeld ?_;simp only[Act.put,ze,zg,zf];refine zC 9 (some 22) (.pointer (some ⟨g,op+K0*8+1,none⟩)) hHeld ?_;simp only[Act.put,ze,zg,zf];refine zP 10 (some 23) (.int .i64 (S:Nat)) rfl rfl (λwz hz=>by have z0:=za hz s0r;unfold execOp;go_simp) hHeld ?_;simp only[Act.put,ze,zg,zf];refine zC 11 (some 7) (.int .i64 (S:Nat)) hHeld ?_;simp only[Act.put,ze,zg,zf];refine wpAnyH_done (by kernel_rfl) ?_ _;have hb3:Below w.heap.size w W2.drew:=zm hb2;have P3:=zn P2;have N3:=zn N2;have nc0:=N3.cell 0;have nc1:=N3.cell 1;have nc2:=N3.cell 2;have nc4:=N3.cell 4;have nc3:=N3.cell 3;have ln3:=N3.lt;have lp3:=P3.lt;simp only[qt,qu,qr]at nc0 nc1 nc2 nc3 nc4;clear c2r k0r s0r hb2 P2 N2 HW hHeld;generalize W2.drew=W3 at *;by_cases q2:2≤Lk
   ·have q4:¬Lk≤4:=λe=>q ⟨q2,e⟩
    have q2i:(2:Int)≤(Lk:Int):=by omega
    have q4i:¬(Lk:Int)≤4:=by omega
    have q2d:decide (2≤Lk)=true:=decide_eq_true q2;have q4d:decide (Lk≤4)=false:=decide_eq_false q4;clear q
    go_wp2_with (first
     |((go_at_call 63)
       refine(qx 135 n.a _).mono ?_;(rintro e w4 ⟨rfl,rfl⟩)))
    exact⟨rfl,hb3,rfl⟩
   ·have q2i:¬(2:Int)≤(Lk:Int):=by omega
    have q2d:decide (2≤Lk)=false:=decide_eq_false q2;clear q
    go_wp2_with (first
     |((go_at_call 63)
       refine(qx 135 n.a _).mono ?_;(rintro e w4 ⟨rfl,rfl⟩)))
    exact⟨rfl,hb3,rfl⟩
end
section
open Go.ChangeShapes Go.WideShapes Go.ChangeAt Go.RowKit Go.MapKept
variable {E:Nat→Prop}
theorem Jv{w:World}{cb:Nat}{V:CV}{c:Ck}{ks:List Nat}{bk ok Ck:Nat}(hI:fU E w cb V c ks bk ok Ck)(n:Nd)(A:Option Addr)(C:Nat)(hr:j0 w n A C)(ho:n.op=qi)(hl:n.l.length=3)(hk2:ks.length=2)(hx2:0≤(vn n.l 2).n∧(vn n.l 2).n≤999999999):
 Calls Tryz.prog 98 #[.pointer (some ⟨cb,0,none⟩),.agg (qa n (.slice A n.l.length C)),.slice (some ⟨bk,ok,none⟩) ks.length Ck] w (yH w (KT (jd c.names c.parts n ks))):=by
 have hk0:=hI.pos;have hkid:=hI.kid;have h:=hI.ck;have hp0:0<c.parts.length:=by have:=(hkid _ (List.getElem_mem hk0)).1;omega
 obtain⟨g,op,Cp,evp,hCp1,hCp2,hg,hSz⟩:=h.vp hp0;have hgd:ks.getD 0 0=ks[0]:=by rw[List.getD_eq_getElem?_getD,List.getElem?_eq_getElem hk0];rfl
 obtain⟨W2,hW2⟩:∃W2,W2=(w.alloc (.cells #[.string (bs n.op),.string (bs n.s),.int .i64 n.n,.int .i64 n.a,.slice A n.l.length C] 24)).alloc (.cells #[.int .i64 0,.int .i64 0,.slice none 0 0,.int .i64 0,.int .i64 0,.int .i64 0,.slice none 0 0,.slice none 0 0] 47):=⟨_,rfl⟩
 have hb2:Below w.heap.size w W2:=by rw[hW2];exact vh w _ _
 have P2:zi W2 (w.heap.size+1) 47 #[.int .i64 0,.int .i64 0,.slice none 0 0,.int .i64 0,.int .i64 0,.int .i64 0,.slice none 0 0,.slice none 0 0]:=by rw[hW2];exact zi.new_at (by simp)
 have N2:zi W2 w.heap.size 24 #[.string (bs n.op),.string (bs n.s),.int .i64 n.n,.int .i64 n.a,.slice A n.l.length C]:=by rw[hW2];exact(zi.new w _ _).alloc _
 have HW:Hid (W2=(w.alloc (.cells #[.string (bs n.op),.string (bs n.s),.int .i64 n.n,.int .i64 n.a,.slice A n.l.length C] 24)).alloc (.cells #[.int .i64 0,.int .i64 0,.slice none 0 0,.int .i64 0,.int .i64 0,.int .i64 0,.slice none 0 0,.slice none 0 0] 47)):=hW2;have hot:=zp n.op;have c2:=h.has.cell 2;simp only[List.getElem?_toArray,List.getElem?_cons_zero,List.getElem?_cons_succ,evp]at c2;have c2r:=za hb2 c2;have k0r:W2.cell? ⟨bk,ok,none⟩=some (.int .i64 (ks[0]:Nat)):=za hb2 (hI.cells 0 hk0);obtain⟨hK0n',hS1,hS2⟩:=hkid _ (List.getElem_mem hk0);have s0r:=hSz.below hb2 hg _ hK0n';obtain⟨gn,on,Au,Cu,rfl,hgn,hat⟩:=yN hr (by omega);have x2w:w.cell? ⟨gn,on+2*5+2,none⟩=some (.int .i64 (vn n.l 2).n):=(hat 2 (by omega)).1 2 (by decide);have hk1:1<ks.length:=by omega
 have hgd1:ks.getD 1 0=ks[1]:=by rw[List.getD_eq_getElem?_getD,List.getElem?_eq_getElem hk1];rfl
 obtain⟨g2,o2,C2,evb,hC21,hC22,hg2,hOn⟩:=h.vo hp0;obtain⟨hK1n',hS11,hS12⟩:=hkid _ (List.getElem_mem hk1);have s1r:=hSz.below hb2 hg _ hK1n';have onr:=hOn.below hb2 hg2 ks[1] (by rw[jx];exact hK1n');have k1r:W2.cell? ⟨bk,ok+1,none⟩=some (.int .i64 (ks[1]:Nat)):=za hb2 (hI.cells 1 hk1);have c6:=h.has.cell 6;simp only[List.getElem?_toArray,List.getElem?_cons_zero,List.getElem?_cons_succ,evb]at c6;have c6r:=za hb2 c6;have x2r:=za hb2 x2w
 have hR:jd c.names c.parts n ks=if Dc (sz c.parts ks[1]) (sz c.parts ks[0]) (vn n.l 2).n=0 then .error (134,n.a)else if(zF c.parts).getD ks[1] false=true then .error (139,n.a)else .ok ⟨5,sz c.parts ks[0],ks,0,0,(vn n.l 2).n.toNat,[],[]⟩:=by
  unfold jd;rw[if_neg (by rw[ho];decide),if_neg (by rw[ho];decide),if_pos ho,hgd,hgd1];rfl
 have HR:=zk hR;have hst:=λW=>FG (sz c.parts ks[1]) (sz c.parts ks[0]) (vn n.l 2).n W
 clear hR c6;have f0:(n.op== [108,105,110,101,97,114])=false:=by rw[ho];decide
 have f1:(n.op== [99,111,110,99,97,116])=false:=by rw[ho];decide
 have f2:(n.op== [109,105,114,114,111,114])=false:=by rw[ho];decide
 have f3:(n.op== [115,110,97,112,115,104,111,116])=true:=by rw[ho];decide
 obtain⟨NP,hNP⟩:∃NP,NP=c.parts.length:=⟨_,rfl⟩
 have HNP:Hid (NP=c.parts.length):=hNP;rw[←hNP]at hCp1 c2r hK0n'
 obtain⟨Lk,hLk⟩:∃Lk,Lk=ks.length:=⟨_,rfl⟩
 have HLk:Hid (Lk=ks.length):=hLk;rw[←hLk];have hL0:0<Lk:=by omega
 obtain⟨S,hS⟩:∃S,S=sz c.parts ks[0]:=⟨_,rfl⟩
 obtain⟨K0,hK0⟩:∃K0,K0=ks[0]:=⟨_,rfl⟩
 rw[←hS]at s0r hS1 hS2;rw[←hK0]at s0r k0r hK0n';have HS:Hid (S=sz c.parts ks[0]):=hS;have hK0n:K0<NP:=hK0n';rw[←hNP]at c6r hK1n';rw[←hS]at HR hst
 obtain⟨x2,hx2'⟩:∃x,x=(vn n.l 2).n:=⟨_,rfl⟩
 rw[←hx2']at HR x2w x2r hx2 hst
 obtain⟨S1,hS1'⟩:∃S1,S1=sz c.parts ks[1]:=⟨_,rfl⟩
 rw[←hS1']at HR s1r hst
 obtain⟨ob,hob⟩:∃ob,ob=(zF c.parts).getD ks[1] false:=⟨_,rfl⟩
 rw[←hob]at HR onr
 obtain⟨K1,hK1⟩:∃K1,K1=ks[1]:=⟨_,rfl⟩
 rw[←hK1]at s1r k1r onr hK1n'
 obtain⟨sl,hsl⟩:∃sl,sl=Dc S1 S x2:=⟨_,rfl⟩
 rw[←hsl]at HR hst
 obtain⟨Ln,hLn⟩:∃Ln,Ln=n.l.length:=⟨_,rfl⟩
 rw[←hLn]at N2 HW hl ⊢;have hln2:2<Ln:=by omega
 have hL1:1<Lk:=by omega
 have hK1n:K1<NP:=hK1n'
 obtain⟨X2,rfl⟩:∃X:Nat,x2=(X:Nat):=⟨x2.toNat,by omega⟩
 obtain⟨hX2a,hX2b⟩:=hx2;have HI:=zk hb2;clear hW2 hNP hLk hS hK0 hK0n' c2 hx2' hS1' hob hK1 hsl hLn hat ho hr hI hkid h hl hk2 hK1n' x2w evb hC21 hC22 hOn hS11 hS12;unfold qa;go_enter Tryz.func98,Tryz.ntmps98
 go_wp2
 rw[←HW.out];refine wp_region_held_drew (S:=λwz=>Below W2.heap.size W2 wz) (by kernel_rfl) ((Below.refl _ W2).drew) (λhHeld=>?_);refine zC 0 (some 13) (.pointer (some ⟨cb,0,none⟩)) hHeld ?_;simp only[Act.put,ze,zg,zf];refine zC 1 (some 14) (.pointer (some ⟨cb,0,none⟩)) hHeld ?_;simp only[Act.put,ze,zg,zf];refine zC 2 (some 15) (.pointer (some ⟨cb,0,none⟩)) hHeld ?_;simp only[Act.put,ze,zg,zf];refine zC 3 (some 16) (.pointer (some ⟨cb,2,none⟩)) hHeld ?_;simp only[Act.put,ze,zg,zf];refine zP 4 (some 17) (.slice (some ⟨g,op,none⟩) NP Cp) rfl rfl (λwz hz=>by have z0:=za hz c2r;unfold execOp;go_simp) hHeld ?_;simp only[Act.put,ze,zg,zf];refine zC 5 (some 18) (.slice (some ⟨bk,ok,none⟩) Lk Ck) hHeld ?_;simp only[Act.put,ze,zg,zf];refine zP 6 (some 19) (.pointer (some ⟨bk,ok,none⟩)) rfl rfl (λwz _=>qz _ _ rfl bk ok 0 Lk Ck rfl rfl hL0 wz) hHeld ?_;simp only[Act.put,ze,zg,zf];refine zP 7 (some 20) (.int .i64 (K0:Nat)) rfl rfl (λwz hz=>by have z0:=za hz k0r;unfold execOp;go_simp) hHeld ?_;simp only[Act.put,ze,zg,zf];refine zP 8 (some 21) (.pointer (some ⟨g,op+K0*8,none⟩)) rfl rfl (λwz _=>zJ _ _ rfl g op K0 NP Cp rfl rfl hK0n wz) hHeld ?_;simp only[Act.put,ze,zg,zf];refine zC 9 (some 22) (.pointer (some ⟨g,op+K0*8+1,none⟩)) hHeld ?_;simp only[Act.put,ze,zg,zf];refine zP 10 (some 23) (.int .i64 (S:Nat)) rfl rfl (λwz hz=>by have z0:=za hz s0r;unfold execOp;go_simp) hHeld ?_;simp only[Act.put,ze,zg,zf];refine zC 11 (some 7) (.int .i64 (S:Nat)) hHeld ?_;simp only[Act.put,ze,zg,zf];refine wpAnyH_done (by kernel_rfl) ?_ _;have hb3:Below w.heap.size w W2.drew:=zm hb2;have P3:=zn P2;have N3:=zn N2;have nc0:=N3.cell 0;have nc1:=N3.cell 1;have nc2:=N3.cell 2;have nc4:=N3.cell 4;have nc3:=N3.cell 3;have ln3:=N3.lt;have lp3:=P3.lt;simp only[qt,qu,qr]at nc0 nc1 nc2 nc3 nc4;have hbz:Below W2.heap.size W2 W2.drew:=(Below.refl _ W2).drew;replace c2r:=za hbz c2r;replace c6r:=za hbz c6r;replace k1r:=za hbz k1r;replace s1r:=za hbz s1r;replace onr:=za hbz onr;replace x2r:=za hbz x2r;clear k0r s0r hb2 P2 N2 HW hHeld HI hbz;generalize W2.drew=W3 at *
 go_wp2_with (first
  |((refine zb 75 rfl ?_)
    (refine zc (some 75) _ rfl (by rfl) (zK _ _ rfl gn on 2 Ln C rfl rfl hln2 W3) ?_)))
 refine wp_region_held_drew (S:=λwz=>Below W3.heap.size W3 wz) (by kernel_rfl) ((Below.refl _ W3).drew) (λhHeld=>?_);refine zC 0 (some 79) (.pointer (some ⟨cb,0,none⟩)) hHeld ?_;simp only[Act.put,ze,zg,zf];refine zC 1 (some 80) (.pointer (some ⟨cb,0,none⟩)) hHeld ?_;simp only[Act.put,ze,zg,zf];refine zC 2 (some 81) (.pointer (some ⟨cb,0,none⟩)) hHeld ?_;simp only[Act.put,ze,zg,zf];refine zC 3 (some 82) (.pointer (some ⟨cb,2,none⟩)) hHeld ?_;simp only[Act.put,ze,zg,zf];refine zP 4 (some 83) (.slice (some ⟨g,op,none⟩) NP Cp) rfl rfl (λwz hz=>by have z0:=za hz c2r;unfold execOp;go_simp) hHeld ?_;simp only[Act.put,ze,zg,zf];refine zC 5 (some 84) (.slice (some ⟨bk,ok,none⟩) Lk Ck) hHeld ?_;simp only[Act.put,ze,zg,zf];refine zP 6 (some 85) (.pointer (some ⟨bk,ok+1,none⟩)) rfl rfl (λwz _=>qz _ _ rfl bk ok 1 Lk Ck rfl rfl hL1 wz) hHeld ?_;simp only[Act.put,ze,zg,zf];refine zP 7 (some 86) (.int .i64 (K1:Nat)) rfl rfl (λwz hz=>by have z0:=za hz k1r;unfold execOp;go_simp) hHeld ?_;simp only[Act.put,ze,zg,zf];refine zP 8 (some 87) (.pointer (some ⟨g,op+K1*8,none⟩)) rfl rfl (λwz _=>zJ _ _ rfl g op K1 NP Cp rfl rfl hK1n wz) hHeld ?_;simp only[Act.put,ze,zg,zf];refine zC 9 (some 88) (.pointer (some ⟨g,op+K1*8+1,none⟩)) hHeld ?_;simp only[Act.put,ze,zg,zf];refine zP 10 (some 89) (.int .i64 (S1:Nat)) rfl rfl (λwz hz=>by have z0:=za hz s1r;unfold execOp;go_simp) hHeld ?_;simp only[Act.put,ze,zg,zf];refine zC 11 (some 90) (.int .i64 (S:Nat)) hHeld ?_;simp only[Act.put,ze,zg,zf];refine zC 12 (some 91) (.int .i64 (X2:Nat)) hHeld ?_;simp only[Act.put,ze,zg,zf];refine qn 13 (some 92) 107 #[.int .i64 (S1:Nat),.int .i64 (S:Nat),.int .i64 (X2:Nat)] (by kernel_rfl) rfl rfl (by rfl) (by kernel_rfl) (hst W3.drew) ?_;rintro e w4 ⟨tt,rfl,hb4⟩;have hH4:Below W3.heap.size W3 w4:=hHeld.trans hb4;refine .inl ⟨_,rfl,hH4,?_⟩;simp only[Act.put,ze,zg,zf];refine zP 14 (some 78) (.tuple #[.int .i64 tt,.int .i64 (sl:Nat)]) rfl rfl (λ_ _=>rfl) hH4 ?_;simp only[Act.put,ze,zg,zf];refine zP 15 (some 93) (.int .i64 tt) rfl rfl (λ_ _=>rfl) hH4 ?_;simp only[Act.put,ze,zg,zf];refine zP 16 (some 94) (.int .i64 (sl:Nat)) rfl rfl (λ_ _=>rfl) hH4 ?_;simp only[Act.put,ze,zg,zf];refine zP 17 (some 11) (.int .i64 tt) rfl rfl (λ_ _=>rfl) hH4 ?_;simp only[Act.put,ze,zg,zf];refine zP 18 (some 12) (.int .i64 (sl:Nat)) rfl rfl (λ_ _=>rfl) hH4 ?_;simp only[Act.put,ze,zg,zf];refine wpAnyH_done (by kernel_rfl) ?_ _;have hbz:Below W3.heap.size W3 w4:=hH4;clear hst hH4 hHeld hb4;have hb4:Below w.heap.size w w4:=hb3.trans (hbz.mono hb3.size);have P4:=P3.below hbz P3.lt;have N4:=N3.below hbz N3.lt;replace c2r:=za hbz c2r;replace c6r:=za hbz c6r;replace k1r:=za hbz k1r;replace s1r:=za hbz s1r;replace onr:=za hbz onr;replace x2r:=za hbz x2r;clear hb3 P3 N3 hbz nc0 nc1 nc2 nc3 nc4 ln3 lp3;generalize w4=W3 at *;have hb3:=hb4;have P3:=P4;have N3:=N4;clear hb4 P4 N4;have nc0:=N3.cell 0;have nc1:=N3.cell 1;have nc2:=N3.cell 2;have nc4:=N3.cell 4;have nc3:=N3.cell 3;have ln3:=N3.lt;have lp3:=P3.lt;simp only[qt,qu,qr]at nc0 nc1 nc2 nc3 nc4;by_cases q1:sl=0
 ·have HQ:=zk (HR.out.trans (if_pos q1))
  subst q1;clear HR
  go_wp2_with (first
   |((go_at_call 63)
     refine(qx 134 n.a _).mono ?_;(rintro e w5 ⟨rfl,rfl⟩)))
  exact⟨rfl,hb3,by rw[HQ.out];rfl⟩
 ·have HR:=HR.out.trans (if_neg q1)
  have q1':decide (0<sl)=true:=decide_eq_true (by omega);have q1i:(0:Int)<(sl:Int):=by omega
  clear q1;cases ob with
  |true =>
   have HQ:=zk (HR.trans (if_pos rfl));clear HR
   go_wp2_with (first
    |((go_at_call 63)
      refine(zX 134 n.a _).mono ?_;rintro e w5 ⟨rfl,hw5⟩;(obtain rfl:W3=w5:=hw5.symm)))
   refine wp_region_held_drew (S:=λwz=>Below W3.heap.size W3 wz) (by kernel_rfl) ((Below.refl _ W3).drew) (λhHeld=>?_);refine zC 0 (some 100) (.pointer (some ⟨cb,0,none⟩)) hHeld ?_;simp only[Act.put,ze,zg,zf];refine zC 1 (some 101) (.pointer (some ⟨cb,0,none⟩)) hHeld ?_;simp only[Act.put,ze,zg,zf];refine zC 2 (some 102) (.pointer (some ⟨cb,6,none⟩)) hHeld ?_;simp only[Act.put,ze,zg,zf];refine zP 3 (some 103) (.slice (some ⟨g2,o2,none⟩) NP C2) rfl rfl (λwz hz=>by have z0:=za hz c6r;unfold execOp;go_simp) hHeld ?_;simp only[Act.put,ze,zg,zf];refine zC 4 (some 104) (.slice (some ⟨bk,ok,none⟩) Lk Ck) hHeld ?_;simp only[Act.put,ze,zg,zf];refine zP 5 (some 105) (.pointer (some ⟨bk,ok+1,none⟩)) rfl rfl (λwz _=>qz _ _ rfl bk ok 1 Lk Ck rfl rfl hL1 wz) hHeld ?_;simp only[Act.put,ze,zg,zf];refine zP 6 (some 106) (.int .i64 (K1:Nat)) rfl rfl (λwz hz=>by have z0:=za hz k1r;unfold execOp;go_simp) hHeld ?_;simp only[Act.put,ze,zg,zf];refine zP 7 (some 107) (.pointer (some ⟨g2,o2+K1,none⟩)) rfl rfl (λwz _=>Z0 _ _ rfl g2 o2 K1 NP C2 rfl rfl hK1n wz) hHeld ?_;simp only[Act.put,ze,zg,zf];refine zP 8 (some 108) (.bool true) rfl rfl (λwz hz=>by have z0:=za hz onr;unfold execOp;go_simp) hHeld ?_;simp only[Act.put,ze,zg,zf];refine zC 9 (some 109) (.bool false) hHeld ?_;simp only[Act.put,ze,zg,zf];refine zC 10 (some 110) (.pointer (some ⟨w.heap.size,3,none⟩)) hHeld ?_;simp only[Act.put,ze,zg,zf];refine zP 11 (some 111) (.int .i64 n.a) rfl rfl (λwz hz=>by have z0:=za hz nc3;unfold execOp;go_simp) hHeld ?_;simp only[Act.put,ze,zg,zf];refine qn 12 (some 112) 63 #[.bool false,.int .i64 139,.int .i64 n.a] (by kernel_rfl) rfl rfl (by rfl) (by kernel_rfl) (qx 139 n.a W3.drew) ?_;rintro e w5 ⟨rfl,rfl⟩;refine .inr ⟨_,rfl,?_⟩;exact⟨rfl,zm hb3,by rw[HQ.out];rfl⟩
  |false =>
   have HQ:=zk (HR.trans (if_neg (by decide)));clear HR
   go_wp2_with (first
    |((go_at_call 63)
      refine(zX 134 n.a _).mono ?_;rintro e w5 ⟨rfl,hw5⟩;(obtain rfl:W3=w5:=hw5.symm)))
   refine wp_region_held_drew (S:=λwz=>Below W3.heap.size W3 wz) (by kernel_rfl) ((Below.refl _ W3).drew) (λhHeld=>?_);refine zC 0 (some 100) (.pointer (some ⟨cb,0,none⟩)) hHeld ?_;simp only[Act.put,ze,zg,zf];refine zC 1 (some 101) (.pointer (some ⟨cb,0,none⟩)) hHeld ?_;simp only[Act.put,ze,zg,zf];refine zC 2 (some 102) (.pointer (some ⟨cb,6,none⟩)) hHeld ?_;simp only[Act.put,ze,zg,zf];refine zP 3 (some 103) (.slice (some ⟨g2,o2,none⟩) NP C2) rfl rfl (λwz hz=>by have z0:=za hz c6r;unfold execOp;go_simp) hHeld ?_;simp only[Act.put,ze,zg,zf];refine zC 4 (some 104) (.slice (some ⟨bk,ok,none⟩) Lk Ck) hHeld ?_;simp only[Act.put,ze,zg,zf];refine zP 5 (some 105) (.pointer (some ⟨bk,ok+1,none⟩)) rfl rfl (λwz _=>qz _ _ rfl bk ok 1 Lk Ck rfl rfl hL1 wz) hHeld ?_;simp only[Act.put,ze,zg,zf];refine zP 6 (some 106) (.int .i64 (K1:Nat)) rfl rfl (λwz hz=>by have z0:=za hz k1r;unfold execOp;go_simp) hHeld ?_;simp only[Act.put,ze,zg,zf];refine zP 7 (some 107) (.pointer (some ⟨g2,o2+K1,none⟩)) rfl rfl (λwz _=>Z0 _ _ rfl g2 o2 K1 NP C2 rfl rfl hK1n wz) hHeld ?_;simp only[Act.put,ze,zg,zf];refine zP 8 (some 108) (.bool false) rfl rfl (λwz hz=>by have z0:=za hz onr;unfold execOp;go_simp) hHeld ?_;simp only[Act.put,ze,zg,zf];refine zC 9 (some 109) (.bool true) hHeld ?_;simp only[Act.put,ze,zg,zf];refine zC 10 (some 110) (.pointer (some ⟨w.heap.size,3,none⟩)) hHeld ?_;simp only[Act.put,ze,zg,zf];refine zP 11 (some 111) (.int .i64 n.a) rfl rfl (λwz hz=>by have z0:=za hz nc3;unfold execOp;go_simp) hHeld ?_;simp only[Act.put,ze,zg,zf];refine qn 12 (some 112) 63 #[.bool true,.int .i64 139,.int .i64 n.a] (by kernel_rfl) rfl rfl (by rfl) (by kernel_rfl) (zX 139 n.a W3.drew) ?_;rintro e w5 ⟨rfl,rfl⟩;refine .inl ⟨_,rfl,hHeld,?_⟩;simp only[Act.put,ze,zg,zf];refine wpAnyH_done (by kernel_rfl) ?_ _;have hbz:Below W3.heap.size W3 W3.drew:=(Below.refl _ W3).drew;clear hHeld;have hb4:Below w.heap.size w W3.drew:=hb3.trans (hbz.mono hb3.size);have P4:=P3.below hbz P3.lt;have N4:=N3.below hbz N3.lt;replace c2r:=za hbz c2r;replace c6r:=za hbz c6r;replace k1r:=za hbz k1r;replace s1r:=za hbz s1r;replace onr:=za hbz onr;replace x2r:=za hbz x2r;clear hb3 P3 N3 hbz nc0 nc1 nc2 nc3 nc4 ln3 lp3;generalize W3.drew=W3 at *;have hb3:=hb4;have P3:=P4;have N3:=N4;clear hb4 P4 N4;have nc0:=N3.cell 0;have nc1:=N3.cell 1;have nc2:=N3.cell 2;have nc4:=N3.cell 4;have nc3:=N3.cell 3;have ln3:=N3.lt;have lp3:=P3.lt;simp only[qt,qu,qr]at nc0 nc1 nc2 nc3 nc4;have a0:=P3.cell 0;have b0:=P3.free 0;have a1:=P3.cell 1;have b1:=P3.free 1;have a2:=P3.cell 2;have b2:=P3.free 2;have a3:=P3.cell 3;have b3:=P3.free 3;have a4:=P3.cell 4;have b4:=P3.free 4;have a5:=P3.cell 5;have b5:=P3.free 5;have a6:=P3.cell 6;have b6:=P3.free 6;have a7:=P3.cell 7;have b7:=P3.free 7;have fin:∀(kd s fi ch:Nat) (kk:List Nat),yH w (KT (.ok ⟨kd,s,kk,0,fi,ch,[],[]⟩)) (.returned (.agg #[.int .i64 (kd:Nat),.int .i64 (s:Nat),.slice none 0 0,.int .i64 0,.int .i64 (fi:Nat),.int .i64 (ch:Nat),.slice none 0 0,.slice none 0 0])) (Jw W3 (w.heap.size+1) (.int .i64 (kd:Nat)) (.int .i64 (s:Nat)) (.slice none 0 0) (.int .i64 0) (.int .i64 (fi:Nat)) (.int .i64 (ch:Nat)) (.slice none 0 0) (.slice none 0 0)):=λkd s fi ch kk=>⟨KG hb3 (Nat.le_succ _) _ _ _ _ _ _ _ _,(.slice none 0 0,.slice none 0 0,.slice none 0 0),rfl,⟨none,0,rfl,Nat.le_refl _,by unfold maxLen;omega,.inl rfl⟩,⟨none,0,rfl,Nat.le_refl _,by unfold maxLen;omega,.inl rfl⟩,⟨none,0,rfl,Nat.le_refl _,by unfold maxLen;omega,.inl rfl⟩⟩
   go_wp2
   exact vA rfl rfl (P3.set8 _ _ _ _ _ _ _ _) rfl (by rw[HQ.out,Int.toNat_natCast];exact fin 5 S 0 X2 ks)
end
section
open Go.ChangeShapes Go.WideShapes Go.ChangeAt Go.RowKit Go.MapKept
variable {E:Nat→Prop}
structure Ds (n:Nd):Prop where
 shape:xa n (jc n).length
 word:n.op=qO∨(n.op=qE∨n.op=qW)∨n.op=qi∨(n.op=jH∨n.op=qk∨n.op=js)
 lin:n.op=qO→n.l.length=3∧(0≤(vn n.l 1).n∧(vn n.l 1).n≤999999999)∧(0≤(vn n.l 2).n∧(vn n.l 2).n≤999999999)
 snap:n.op=qi→n.l.length=3∧(0≤(vn n.l 2).n∧(vn n.l 2).n≤999999999)
 sec:(n.op=jH∨n.op=qk∨n.op=js)→2≤n.l.length
 few:n.l.length≤80000
inductive U6:Nat→Nd→Prop where
 |use (d:Nat) (n:Nd):n.op=ye→U6 (d+1) n
 |mk (d:Nat) (n:Nd):n.op≠ye→Ds n→(∀x ∈ jc n,U6 d x)→U6 (d+1) n
theorem U6.ok{d:Nat}{n:Nd}(h:U6 d n):Uo d n:=by
 induction h with
 |use d n e=>exact .use d n e
 |mk d n e hs _ ih=>exact .mk d n e hs.shape ih
def fo(E:Nat→Prop)(w:World)(cb:Nat)(V:CV)(c:Ck)(R:Except Er (Nat×List Pt))(e:Ending)(w':World):Prop:=j9 (V.own cb) w w'∧match R with
 | .error (ec,ek)=>e= .panicked (Vi ec ek)
 | .ok (k,ps)=>e= .returned (.int .i64 (k:Nat))∧∃V',zG (λg=>E g∨w.heap.size≤g) w' cb V' { c with parts:=ps }∧qT cb V w V' w'
def UZ(cb:Nat)(w0:World)(d:Nat):Prop:=∀(E:Nat→Prop) (w:World) (V:CV) (c:Ck) (n:Nd) (A:Option Addr) (C:Nat),zG E w cb V c→j0 w0 n A C→w0.heap.size≤cb-1→Below w0.heap.size w0 w→U6 d n→vI c.names c.parts→(∀x ∈ c.names,x.2.bytes.length≤1000) →
 Calls Tryz.prog 83 #[.pointer (some ⟨cb,0,none⟩),.agg (qa n (.slice A n.l.length C))] w (fo E w cb V c (qP c.names d c.parts n))
theorem qT.grown{cb:Nat}{V V5:CV}{W1 w5 w6:World}{v:Value}(s:qT cb V W1 V5 w5)(hg:w5.grownBy w6 v.ownBlock)(hv:∀g,v.ownBlock=some g→W1.heap.size≤g):qT cb V W1 V5 w6:=
 ⟨⟨hg.os.trans s.only.os,hg.tape.trans s.only.tape,hg.output.trans s.only.output,Nat.le_trans s.only.size hg.size,λk hk hn=>(hg.block k (Nat.lt_of_lt_of_le hk s.only.size) (λe=>by have:=hv k e.symm;omega)).trans (s.only.block k hk hn)⟩,s.new⟩
theorem zG.grown{w w6:World}{cb:Nat}{V:CV}{c:Ck}{v:Value}(h:zG E w cb V c)(hg:w.grownBy w6 v.ownBlock)(hn:∀g,v.ownBlock=some g→¬V.own cb g)(hE:∀g,E g→v.ownBlock≠some g):zG E w6 cb V c:=by
 have hk:∀k,k<w.heap.size→(¬V.own cb k∧E k)→w6.heap[k]?=w.heap[k]?∧(¬V.own cb k∧E k):=λk hk hh=>⟨hg.block k hk (λe=>hE k hh.2 e.symm),hh⟩
 have kept:∀ {k:Nat} {o:Obj},V.own cb k→w.heap[k]?=some o→w6.heap[k]?=some o:=λ{k o} ho hh=>(hg.block k (Array.getElem?_eq_some_iff.1 hh).1 (λe=>hn k e.symm ho)).trans hh
 obtain⟨us,e1,r1,i1⟩:=h.prts;obtain⟨ms,e2,r2,i2⟩:=h.nms;exact⟨kept (.inl rfl) h.has,zE h.devs (λg o e ho=>kept (.inr (.inl e)) ho),zE h.only (λg o e ho=>kept (.inr (.inr (.inr (.inl e)))) ho),⟨us,e1,zE r1 (λg o e ho=>kept (.inr (.inr (.inl e))) ho),λi a b=>(i1 i a b).keep hg.size hk⟩,⟨ms,e2,kept (.inr (.inr (.inr (.inr rfl)))) r2,λi a b=>(i2 i a b).keep hg.size hk⟩,h.uniq,h.mlt,h.few⟩
theorem Z2(l:List Nd){i:Nat}(h:i<l.length):(l.take (i+1)).filter (λx=> !(x.op==vH||x.op==jN))=(l.take i).filter (λx=> !(x.op==vH||x.op==jN))++(if(l[i].op==vH||l[i].op==jN)=true then[]else[l[i]]):=by
 rw[List.take_succ_eq_append_getElem h,List.filter_append];cases hb:(l[i].op==vH||l[i].op==jN)<;>simp only[List.filter_cons,List.filter_nil,hb,Bool.not_false,Bool.not_true,if_true,Bool.false_eq_true,if_false]
theorem Ja(f:List Pt→Nd→Except Er (Nat×List Pt))(x:Nd):∀(l:List Nd) (ps:List Pt),qG f ps (l++ [x])=match qG f ps l with
 | .error e=> .error e
 | .ok (ks,p1)=>match f p1 x with
   | .error e=> .error e
   | .ok (k,p2)=> .ok (ks++ [k],p2):=by
 intro l
 induction l with
 |nil =>
  intro ps;simp only[List.nil_append,qG];cases f ps x with
  |error e=>rfl
  |ok r=>obtain⟨k,p2⟩:=r;rfl
 |cons y l ih =>
  intro ps;simp only[List.cons_append,qG];cases f ps y with
  |error e=>rfl
  |ok r =>
   obtain⟨k,p1⟩:=r;simp only[ih];cases qG f p1 l with
   |error e=>rfl
   |ok r2 =>
    obtain⟨ks,p2⟩:=r2;simp only;cases f p2 x with
    |error e=>rfl
    |ok r3=>obtain⟨k3,p3⟩:=r3;rfl
theorem JK(f:List Pt→Nd→Except Er (Nat×List Pt)):∀(l:List Nd) (ps:List Pt) (ks:List Nat) (p1:List Pt),qG f ps l= .ok (ks,p1)→ks.length=l.length:=by
 intro l
 induction l with
 |nil=>intro ps ks p1 h;cases h;rfl
 |cons y l ih =>
  intro ps ks p1 h;simp only[qG]at h;cases hf:f ps y with
  |error e=>rw[hf]at h;cases h
  |ok q =>
   obtain⟨k,p2⟩:=q;rw[hf]at h;simp only at h;cases hc:qG f p2 l with
   |error e=>rw[hc]at h;cases h
   |ok q2 =>
    obtain⟨ks2,p3⟩:=q2;rw[hc]at h;cases h;simp[ih p2 ks2 _ hc]
theorem Ug(f:List Pt→Nd→Except Er (Nat×List Pt))(l r:List Nd)(ps:List Pt)(e:Er)(h:qG f ps l= .error e):qG f ps (l++r)= .error e:=by
 induction l generalizing ps with
 |nil=>cases h
 |cons y l ih =>
  simp only[List.cons_append,qG]at h ⊢;cases hf:f ps y with
  |error e'=>rw[hf]at h;exact h
  |ok q =>
   obtain⟨k,p1⟩:=q;rw[hf]at h;simp only at h ⊢;cases hc:qG f p1 l with
   |error e'=>rw[hc]at h;cases h;rw[ih p1 hc]
   |ok q2=>rw[hc]at h;cases h
end
section
inductive ZK:Nd→Prop where
 |mk (n:Nd):n.l.length≤80000→(∀x ∈ n.l,ZK x)→ZK n
theorem ZK.len{n:Nd}(h:ZK n):n.l.length≤80000:=by cases h;assumption
theorem ZK.all{n:Nd}(h:ZK n):∀x ∈ n.l,ZK x:=by cases h;assumption
theorem Ql{re:Nd→Bool}{n:Nd}(h:jV re n=true):0<(zQ n.op).1.length∧(zQ n.op).1.length≤n.l.length∧((zQ n.op).2=false→n.l.length=(zQ n.op).1.length)∧∀i,i<n.l.length→j4 re (JD (zQ n.op).1 i) (vn n.l i)=true:=by
 unfold jV KL at h;simp only[Bool.and_eq_true,Bool.not_eq_true',decide_eq_false_iff_not,Bool.and_eq_false_iff,Bool.not_eq_false',List.all_eq_true]at h;obtain⟨⟨⟨h1,h2⟩,h3⟩,h4⟩:=h;refine⟨by omega,by omega,λe=>?_,λi hi=>h4 i (List.mem_range.2 hi)⟩;rcases h3 with q|q
 ·omega
 ·rw[e]at q;cases q
theorem Qv{op:List UInt8}(h:0<(zQ op).1.length):op=qO∨(op=qE∨op=qW)∨op=qi∨(op=jH∨op=qk∨op=js):=by
 unfold zQ at h;by_cases e1:op=qO
 ·exact .inl e1
 ·by_cases e2:op=qE∨op=qW
  ·exact .inr (.inl e2)
  ·by_cases e3:op=qi
   ·exact .inr (.inr (.inl e3))
   ·by_cases e4:op=jH∨op=qk∨op=js
    ·exact .inr (.inr (.inr e4))
    ·rw[if_neg e1,if_neg e2,if_neg e3,if_neg e4]at h
     exact absurd h (by decide)
theorem ku{op:List UInt8}(h:op=ye∨0<(zQ op).1.length):(op==vH||op==jN)=false:=by
 rcases h with h|h
 ·rw[h];decide
 ·rcases Qv h with h|(h|h)|h|h|h|h<;>rw[h]<;>decide
theorem ZV{d:Nat}{n:Nd}(h:qg (d+1) n=true)(hu:n.op≠ye):jV (qg d) n=true:=by
 unfold qg at h;rw[if_neg hu]at h;simp only[Bool.and_eq_true]at h;exact h.2.2
theorem yV{d:Nat}{n:Nd}(h:qg d n=true):(n.op==vH||n.op==jN)=false:=by
 cases d with
 |zero=>cases h
 |succ d =>
  by_cases hu:n.op=ye
  ·exact ku (.inl hu)
  ·exact ku (.inr (Ql (ZV h hu)).1)
theorem uQ{re:Nd→Bool}{x:Nd}(h:j4 re .nu x=true):(x.op==vH||x.op==jN)=true∧0≤x.n∧x.n≤999999999:=by
 unfold j4 yE at h;simp only[Bool.and_eq_true,decide_eq_true_eq]at h;exact⟨by rw[h.1.1.1];rfl,h.1.2.1,h.1.2.2⟩
theorem Di{re:Nd→Bool}{x:Nd}(h:j4 re .na x=true):(x.op==vH||x.op==jN)=true:=by
 unfold j4 at h;simp only[Bool.and_eq_true,decide_eq_true_eq]at h;rw[h.1.1.1,Bool.or_true]
theorem fW{l:List Nd}(h:l.length=3):l= [vn l 0,vn l 1,vn l 2]:=by
 match l,h with
 | [a,b,c],_=>rfl
theorem Dz{l:List Nd}(h:l.length=2):l= [vn l 0,vn l 1]:=by
 match l,h with
 | [a,b],_=>rfl
theorem QC{n:Nd}:jc n=n.l.filter λx=> !(x.op==vH||x.op==jN):=rfl
theorem Ui{d:Nat}{n:Nd}(h:jV (qg d) n=true)(hl:n.l.length≤80000):Ds n∧∀x ∈ jc n,qg d x=true:=by
 obtain⟨h1,h2,h3,h4⟩:=Ql h;rcases Qv h1 with ho|ho|ho|ho
 ·have hi:zQ n.op=([.ex,.nu,.nu],false):=by rw[ho];rfl
  rw[hi]at h3 h4;have hl3:n.l.length=3:=h3 rfl;have p0:qg d (vn n.l 0)=true:=h4 0 (by omega);have p1:=uQ (h4 1 (by omega));have p2:=uQ (h4 2 (by omega))
  have hk:jc n= [vn n.l 0]:=by
   rw[QC];generalize hy:n.l=y at *;rw[fW hl3];simp only[List.filter_cons,List.filter_nil,yV p0,p1.1,p2.1,Bool.not_true,Bool.not_false,if_true,Bool.false_eq_true,if_false];rfl
  have e1:n.op≠qE:=by rw[ho];decide
  have e2:n.op≠qW:=by rw[ho];decide
  have e3:n.op≠qi:=by rw[ho];decide
  refine⟨⟨⟨by rw[hk];simp,λ_=>⟨by rw[hk];rfl,p1.2.1,p2.2.1⟩,λ_=>by rw[hk];rfl,λe=>absurd e e3⟩,.inl ho,λ_=>⟨hl3,p1.2,p2.2⟩,λe=>absurd e e3,λe=>?_,hl⟩,?_⟩
  ·rw[ho]at e
   rcases e with e|e|e<;>exact absurd e (by decide)
  ·rw[hk];intro x hx;rw[List.mem_singleton.1 hx];exact p0
 ·have hi:zQ n.op=([.ex],true):=by rcases ho with ho|ho<;>rw[ho]<;>rfl
  rw[hi]at h2 h4
  have hall:∀x ∈ n.l,qg d x=true:=λx hx=>by
   obtain⟨i,hi,rfl⟩:=List.getElem_of_mem hx;have:=h4 i hi;rw[VL hi]at this
   have hkd:JD [.ex] i= .ex:=by
    unfold JD;rw[show min i ([Kd.ex].length-1)=0 by simp];rfl
   rw[hkd]at this;exact this
  have hk:jc n=n.l:=by
   rw[QC,List.filter_eq_self];intro x hx;rw[yV (hall x hx)];rfl
  have h2':1≤n.l.length:=h2;refine⟨⟨⟨by rw[hk];exact h2',λe=>?_,λe=>?_,λe=>?_⟩,.inr (.inl ho),λe=>?_,λe=>?_,λe=>?_,hl⟩,by rw[hk];exact hall⟩
  ·rcases ho with ho|ho<;>rw[ho]at e<;>exact absurd e (by decide)
  ·rcases ho with ho|ho
   ·exact absurd ho e.1
   ·exact absurd ho e.2.1
  ·rcases ho with ho|ho<;>rw[ho]at e<;>exact absurd e (by decide)
  ·rcases ho with ho|ho<;>rw[ho]at e<;>exact absurd e (by decide)
  ·rcases ho with ho|ho<;>rw[ho]at e<;>exact absurd e (by decide)
  ·rcases ho with ho|ho<;>rw[ho]at e<;>rcases e with e|e|e<;>exact absurd e (by decide)
 ·have hi:zQ n.op=([.ex,.ex,.nu],false):=by rw[ho];rfl
  rw[hi]at h3 h4;have hl3:n.l.length=3:=h3 rfl;have p0:qg d (vn n.l 0)=true:=h4 0 (by omega);have p1:qg d (vn n.l 1)=true:=h4 1 (by omega);have p2:=uQ (h4 2 (by omega))
  have hk:jc n= [vn n.l 0,vn n.l 1]:=by
   rw[QC];generalize hy:n.l=y at *;rw[fW hl3];simp only[List.filter_cons,List.filter_nil,yV p0,yV p1,p2.1,Bool.not_true,Bool.not_false,if_true,Bool.false_eq_true,if_false];rfl
  have e1:n.op≠qO:=by rw[ho];decide
  refine⟨⟨⟨by rw[hk];simp,λe=>absurd e e1,λe=>absurd ho e.2.2,λ_=>by rw[hk];rfl⟩,.inr (.inr (.inl ho)),λe=>absurd e e1,λ_=>⟨hl3,p2.2⟩,λe=>?_,hl⟩,?_⟩
  ·rw[ho]at e
   rcases e with e|e|e<;>exact absurd e (by decide)
  ·rw[hk];intro x hx
   rcases List.mem_cons.1 hx with e|e
   ·rw[e];exact p0
   ·rw[List.mem_singleton.1 e];exact p1
 ·have hi:zQ n.op=([.ex,.na],false):=by rcases ho with ho|ho|ho<;>rw[ho]<;>rfl
  rw[hi]at h3 h4;have hl2:n.l.length=2:=h3 rfl;have p0:qg d (vn n.l 0)=true:=h4 0 (by omega);have p1:=Di (h4 1 (by omega))
  have hk:jc n= [vn n.l 0]:=by
   rw[QC];generalize hy:n.l=y at *;rw[Dz hl2];simp only[List.filter_cons,List.filter_nil,yV p0,p1,Bool.not_true,Bool.not_false,if_true,Bool.false_eq_true,if_false];rfl
  have e1:n.op≠qO:=by rcases ho with ho|ho|ho<;>rw[ho]<;>decide
  have e3:n.op≠qi:=by rcases ho with ho|ho|ho<;>rw[ho]<;>decide
  refine⟨⟨⟨by rw[hk];simp,λe=>absurd e e1,λ_=>by rw[hk];rfl,λe=>absurd e e3⟩,.inr (.inr (.inr ho)),λe=>absurd e e1,λe=>absurd e e3,λ_=>by omega,hl⟩,?_⟩;rw[hk];intro x hx;rw[List.mem_singleton.1 hx];exact p0
theorem Un(d:Nat):∀ {n:Nd},qg d n=true→ZK n→U6 d n:=by
 induction d with
 |zero=>intro n h;cases h
 |succ d ih =>
  intro n h hl;by_cases hu:n.op=ye
  ·exact .use d n hu
  ·obtain⟨h1,h2⟩:=Ui (ZV h hu) hl.len
   exact .mk d n hu h1 λx hx=>ih (h2 x hx) (hl.all x ((List.mem_filter.1 hx).1))
theorem Dl{x:List UInt8}(h:KU x=true):∀c ∈ x,zo c=true:=by
 unfold KU at h;cases ht:Zo (36::x)with
 |none=>rw[ht]at h;cases h
 |some t =>
  rw[ht]at h;simp only[Bool.and_eq_true,beq_iff_eq]at h;unfold Zo at ht
  split at ht
  ·rename_i t' hS
   cases ht;have hg:=((yA hS).2 t (by simp)).hex h.1;rw[h.2]at hg;exact hg.2.1
  ·cases ht
structure JB (n:Nd):Prop where
 word:n.op=zd∨n.op=zj∨n.op=qj∨n.op=zS∨n.op=zr∨n.op=zH
 num:(n.op=zd∨n.op=zj)→0≤n.n∧n.n≤999999999
 key:(n.op=qj∨n.op=zS)→n.l.length=1∧∀c ∈ (vn n.l 0).s,zo c=true
 vol:n.op=zr→n.l.length=1∧U6 12 (vn n.l 0)
 exp:n.op=zH→n.n=0∨n.n=1
theorem UR{n:Nd}(h:vS n=true)(hl:ZK n):JB n:=by
 unfold vS at h;simp only[Bool.and_eq_true]at h;obtain⟨h1,h⟩:=h;by_cases e1:n.op=zd∨n.op=zj
 ·rw[if_pos e1]at h
  unfold yE at h;simp only[Bool.and_eq_true,decide_eq_true_eq]at h;refine⟨by rcases e1 with e|e;exact .inl e;exact .inr (.inl e),λ_=>h.1,λe=>?_,λe=>?_,λe=>?_⟩
  ·rcases e1 with q|q<;>rw[q]at e<;>rcases e with e|e<;>exact absurd e (by decide)
  ·rcases e1 with q|q<;>rw[q]at e<;>exact absurd e (by decide)
  ·rcases e1 with q|q<;>rw[q]at e<;>exact absurd e (by decide)
 ·rw[if_neg e1]at h
  by_cases e2:n.op=qj∨n.op=zS
  ·rw[if_pos e2]at h
   unfold yS at h;simp only[Bool.and_eq_true,decide_eq_true_eq]at h;refine⟨by rcases e2 with e|e;exact .inr (.inr (.inl e));exact .inr (.inr (.inr (.inl e))),λe=>absurd e e1,λ_=>⟨h.1.2,Dl h.2.1.1.2⟩,λe=>?_,λe=>?_⟩
   ·rcases e2 with q|q<;>rw[q]at e<;>exact absurd e (by decide)
   ·rcases e2 with q|q<;>rw[q]at e<;>exact absurd e (by decide)
  ·rw[if_neg e2]at h
   by_cases e3:n.op=zr
   ·rw[if_pos e3]at h
    simp only[Bool.and_eq_true,decide_eq_true_eq]at h;have h0:0<n.l.length:=by omega
    refine⟨.inr (.inr (.inr (.inr (.inl e3)))),λe=>absurd e e1,λe=>absurd e e2,λ_=>⟨h.1.2,Un 12 h.2 (hl.all _ ?_)⟩,λe=>?_⟩
    ·show vn n.l 0 ∈ n.l
     rw[VL h0];exact List.getElem_mem h0
    ·rw[e3]at e;exact absurd e (by decide)
   ·rw[if_neg e3]at h
    by_cases e4:n.op=zH
    ·rw[if_pos e4]at h
     simp only[Bool.and_eq_true,Bool.or_eq_true,decide_eq_true_eq]at h;exact⟨.inr (.inr (.inr (.inr (.inr e4)))),λe=>absurd e e1,λe=>absurd e e2,λe=>absurd e e3,λ_=>h.1⟩
    ·rw[if_neg e4]at h
     cases h
end
section
def vX(x:Nd):Bool:=x.op==zd||x.op==zj
def yl(x:Nd):Bool:=x.op==zd
theorem GO{x:Nd}(h:x.op=zd):yl x=true:=by unfold yl;rw[h];decide
theorem kJ{x:Nd}(h:x.op≠zd):yl x=false:=by unfold yl;rw[beq_eq_false_iff_ne];exact h
theorem UU{x:Nd}(h:x.op=zd∨x.op=zj):vX x=true:=by unfold vX;rcases h with h|h<;>rw[h]<;>decide
theorem FJ{x:Nd}(h:¬(x.op=zd∨x.op=zj)):vX x=false:=by
 unfold vX;rw[show(x.op==zd)=false by rw[beq_eq_false_iff_ne];exact λe=>h (.inl e),show(x.op==zj)=false by rw[beq_eq_false_iff_ne];exact λe=>h (.inr e)];rfl
theorem JQ(q r:List Nd):∀d,zV d (q++r)=zV d q++zV (d+jz q) r:=by
 induction q with
 |nil=>intro d;simp[zV,jz]
 |cons y q ih =>
  intro d;simp only[List.cons_append,zV,jz];by_cases h1:y.op=zd
  ·rw[if_pos h1,if_pos h1,if_pos (show y.op=zd∨y.op=zj from .inl h1),ih,List.cons_append,show d+1+jz q=d+(1+jz q) by omega]
  ·rw[if_neg h1,if_neg h1]
   by_cases h2:y.op=zj
   ·rw[if_pos h2,if_pos h2,if_pos (show y.op=zd∨y.op=zj from .inr h2),ih,show d+1+jz q=d+(1+jz q) by omega]
   ·rw[if_neg h2,if_neg h2,if_neg (show ¬(y.op=zd∨y.op=zj) by simp[h1,h2]),ih,Nat.zero_add]
theorem xU(q:List Nd):∀d,(zV d q).length=(q.filter yl).length:=by
 induction q with
 |nil=>intro d;rfl
 |cons y q ih =>
  intro d;simp only[zV,List.filter_cons];by_cases h1:y.op=zd
  ·rw[if_pos h1,if_pos (GO h1),List.length_cons,List.length_cons,ih]
  ·rw[if_neg h1,kJ h1]
   simp only[Bool.false_eq_true,if_false];by_cases h2:y.op=zj
   ·rw[if_pos h2,ih]
   ·rw[if_neg h2,ih]
theorem Fm(q:List Nd):jz q=(q.filter vX).length:=by
 induction q with
 |nil=>rfl
 |cons y q ih =>
  simp only[jz,List.filter_cons];by_cases h1:y.op=zd∨y.op=zj
  ·rw[if_pos h1,if_pos (UU h1),List.length_cons,ih,Nat.add_comm]
  ·rw[if_neg h1,FJ h1]
   simp only[Bool.false_eq_true,if_false];rw[ih,Nat.zero_add]
theorem Fe{l q r:List Nd}{x:Nd}(hl:l=q++x::r)(hx:x.op=zd)(rs:List Pt):zz (zV 0 l++rs) (q.filter yl).length=⟨1,x.n.toNat,[],(q.filter vX).length,0,0,[],[]⟩∧(q.filter yl).length<(zV 0 l++rs).length:=by
 subst hl;rw[JQ,←xU q 0,←Fm,Nat.zero_add]
 have e:zV (jz q) (x::r)=⟨1,x.n.toNat,[],jz q,0,0,[],[]⟩::zV (jz q+1) r:=by
  show(if x.op=zd then _ else _)=_;rw[if_pos hx]
 rw[e,List.append_assoc,List.cons_append];exact⟨YT _ _ _,by simp⟩
theorem yr(ns:vL)(x:List UInt8×Mn)(ws:List (List UInt8)):qY (ns++ [x]) ws=qY ns ws+(if ws.any (λy=>x.2.word==y)=true then 1 else 0):=by
 unfold qY;rw[List.filter_append,List.length_append]
 congr 1
 simp only[List.filter_cons,List.filter_nil]
 split<;>rfl
theorem vI.snoc{ns:vL}{ps:List Pt}(h:vI ns ps){s:List UInt8}{m:Mn}(h1:(m.word=zd∨m.word=zr)→yn ps m.node)(h2:(m.word=qj∨m.word=zS)→m.bytes.length=32):vI (ns++ [(s,m)]) ps:=λx hx=>by
 rcases List.mem_append.1 hx with q|q
 ·exact h x q
 ·rw[List.mem_singleton.1 q]
  exact⟨h1,h2⟩
theorem Zp:∀(k:Nat) (x:List UInt8),x.length=2*k→(jZ x).length=k:=by
 intro k
 induction k with
 |zero=>intro x h;rw[List.length_eq_zero_iff.1 (by omega:x.length=0)];rfl
 |succ k ih =>
  intro x h
  match x,h with
  |a::b::r,h =>
   simp only[jZ,List.length_cons];rw[ih r (by simp at h;omega)]
theorem Z5{f:List Pt→Nd→Except Er (Nat×List Pt)}(hf:∀ps x k p1,f ps x= .ok (k,p1)→p1.length≤max 64 ps.length∧ps.length≤p1.length)(l:List Nd):∀ps ks p1,qG f ps l= .ok (ks,p1)→p1.length≤max 64 ps.length∧ps.length≤p1.length:=by
 induction l with
 |nil=>intro ps ks p1 h;cases h;exact⟨by omega,Nat.le_refl _⟩
 |cons x l ih =>
  intro ps ks p1 h;unfold qG at h;cases h1:f ps x with
  |error e=>rw[h1]at h;cases h
  |ok y =>
   obtain⟨k,p2⟩:=y;rw[h1]at h;simp only at h;cases h2:qG f p2 l with
   |error e=>rw[h2]at h;cases h
   |ok z =>
    obtain⟨ks2,p3⟩:=z;rw[h2]at h;cases h;have:=hf _ _ _ _ h1;have:=ih _ _ _ h2;omega
theorem xW{ns:vL}(d:Nat):∀ps n k p1,qP ns d ps n= .ok (k,p1)→p1.length≤max 64 ps.length∧ps.length≤p1.length:=by
 induction d with
 |zero=>intro ps n k p1 h;cases h
 |succ d ih =>
  intro ps n k p1 h;unfold qP at h;by_cases hu:n.op=ye
  ·rw[if_pos hu]at h
   cases hk:qm ns n [zd,zr]with
   |error e=>rw[hk]at h;cases h
   |ok m=>rw[hk]at h;cases h;exact⟨by omega,Nat.le_refl _⟩
  ·rw[if_neg hu]at h
   cases hc:qG (qP ns d) ps (jc n)with
   |error e=>rw[hc]at h;cases h
   |ok y =>
    obtain⟨ks,p2⟩:=y;rw[hc]at h;simp only at h;have hb:=Z5 ih _ _ _ _ hc
    split at h
    ·cases h
    ·cases hp:jd ns p2 n ks with
     |error e=>rw[hp]at h;cases h
     |ok p =>
      rw[hp]at h;cases h;rw[List.length_append,List.length_singleton];omega
structure Ue (l D:List Nd) (nv nq:Nat) (c:Ck):Prop where
 devs:c.devs=D.map (λx=>x.n.toNat)
 dev:qY c.names [zd]=nv
 dj:qY c.names [zd,zj]=D.length
 le8:D.length≤8
 ok:∀x ∈ D,1≤x.n∧x.n≤2048
 jour:∀j,c.jour=some j→∃y,D[j]?=some y∧y.op=zj
 parts:∃rs,c.parts=zV 0 l++rs∧Grown' (zV 0 l) rs
 few:c.parts.length≤max 64 (zV 0 l).length
 nms:vI c.names c.parts
 byts:∀x ∈ c.names,x.2.bytes.length≤1000
 expo:∀x,c.expo=some x→yn c.parts x
 uniq:c.names.Pairwise (λx y=>x.1≠y.1)
 nlen:c.names.length≤nq
def Jt(l q:List Nd)(c:Ck):Prop:=Ue l (q.filter vX) (q.filter yl).length q.length c
theorem Jt.start(l:List Nd):Jt l [] (kj (zV 0 l)):=
 ⟨rfl,rfl,rfl,(by decide),(λx h=>by cases h),(λj h=>by cases h),⟨[],by simp[kj],trivial⟩,(by show(zV 0 l).length≤_;omega),(λx h=>by cases h),(λx h=>by cases h),(λx h=>by cases h),List.Pairwise.nil,Nat.le_refl _⟩
theorem ko{ns:vL}{s:List UInt8}(h:lk ns s=none):∀x ∈ ns,x.1≠s:=λx hx e=>by
 unfold lk at h;rw[Option.map_eq_none_iff,List.find?_eq_none]at h;exact h x hx (by simp[e])
theorem xM{ns:vL}{s:List UInt8}(m:Mn)(h:ns.Pairwise (λx y=>x.1≠y.1))(hn:lk ns s=none):(ns++ [(s,m)]).Pairwise (λx y=>x.1≠y.1):=
 List.pairwise_append.2 ⟨h,List.pairwise_singleton _ _,λa ha b hb=>by rw[List.mem_singleton.1 hb];exact ko hn a ha⟩
theorem Jt.step{l q r:List Nd}{x:Nd}{c c':Ck}(hl:l=q++x::r)(h:Jt l q c)(hx:JB x)(hs:qX c x= .ok c'):Jt l (q++ [x]) c':=by
 have f1:(q++ [x]).filter vX=q.filter vX++(if vX x=true then[x]else[]):=by
  rw[List.filter_append];congr 1;simp only[List.filter_cons,List.filter_nil]
 have f2:((q++ [x]).filter yl).length=(q.filter yl).length+(if yl x=true then 1 else 0):=by
  rw[List.filter_append,List.length_append];congr 1;simp only[List.filter_cons,List.filter_nil]
  split<;>rfl
 have hd0:zz c.parts (q.filter yl).length=⟨1,x.n.toNat,[],(q.filter vX).length,0,0,[],[]⟩∧(q.filter yl).length<c.parts.length∨x.op≠zd:=by
  by_cases e:x.op=zd
  ·obtain⟨rs,e1,_⟩:=h.parts
   rw[e1];exact .inl (Fe hl e rs)
  ·exact .inr e
 unfold Jt at h ⊢;rw[f1,f2,List.length_append,List.length_singleton];clear f1 f2 hl;generalize q.filter vX=D at *;generalize (q.filter yl).length=nv at *;generalize q.length=nq at *;unfold qX at hs;by_cases e0:x.op=zH
 ·rw[if_pos e0]at hs
  have g1:vX x=false:=FJ (by rw[e0];decide);have g2:yl x=false:=kJ (by rw[e0];decide);rw[g1,g2];simp only[Bool.false_eq_true,if_false,List.append_nil,Nat.add_zero];unfold vw at hs
  split at hs
  ·cases hs
  ·cases hk:qm c.names x [zd,zr]with
   |error e=>rw[hk]at hs;cases hs
   |ok m =>
    rw[hk]at hs;cases hs;exact⟨h.devs,h.dev,h.dj,h.le8,h.ok,h.jour,h.parts,h.few,h.nms,h.byts,(λy hy=>by cases hy;exact Zr h.nms hk),h.uniq,Nat.le_succ_of_le h.nlen⟩
 ·rw[if_neg e0]at hs
  split at hs
  ·cases hs
  ·rename_i hlk
   have hlk:lk c.names x.s=none:=by simpa using hlk
   split at hs
   ·cases hs
   ·rename_i hfull
    have hfull:full c.names x.op=false:=by simpa using hfull
    unfold jg at hs;by_cases e1:x.op=zj
    ·have g1:vX x=true:=UU (.inr e1)
     have g2:yl x=false:=kJ (by rw[e1];decide)
     have h8:D.length≠8:=by
      unfold full at hfull;rw[if_pos (.inr e1)]at hfull;rw[←h.dj]
      simpa using hfull
     have hle:=h.le8;rw[g1,g2];simp only[if_true,Bool.false_eq_true,if_false,Nat.add_zero];rw[if_pos e1]at hs;by_cases hsz:256≤x.n∧x.n≤2048
     ·rw[if_neg (not_not_intro hsz)]at hs
      by_cases hj:c.jour.isSome=true
      ·rw[if_pos hj]at hs;cases hs
      ·rw[if_neg hj]at hs
       cases hs;refine⟨by show c.devs++ [_]=_;rw[h.devs,List.map_append];rfl,?_,?_,by simp;omega,λy hy=>?_,λj hj'=>?_,h.parts,h.few,h.nms.snoc (λe=>?_) (λe=>?_),λy hy=>?_,h.expo,xM _ h.uniq hlk,by simp[h.nlen]⟩
       ·show qY (c.names++ [_]) _=_
        rw[yr,h.dev];simp only[e1];rfl
       ·show qY (c.names++ [_]) _=_
        rw[yr,h.dj,List.length_append];simp only[e1];rfl
       ·rcases List.mem_append.1 hy with q|q
        ·exact h.ok y q
        ·rw[List.mem_singleton.1 q];omega
       ·cases hj'
        refine⟨x,?_,e1⟩;rw[h.devs,List.length_map,List.getElem?_append_right (Nat.le_refl _)];simp
       ·rcases e with e|e
        ·exact absurd (e1.symm.trans e) (by decide)
        ·exact absurd (e1.symm.trans e) (by decide)
       ·rcases e with e|e
        ·exact absurd (e1.symm.trans e) (by decide)
        ·exact absurd (e1.symm.trans e) (by decide)
       ·rcases List.mem_append.1 hy with q|q
        ·exact h.byts y q
        ·rw[List.mem_singleton.1 q];exact Nat.zero_le _
     ·rw[if_pos hsz]at hs;cases hs
    ·rw[if_neg e1]at hs
     by_cases e2:x.op=zd
     ·have g1:vX x=true:=UU (.inl e2)
      have g2:yl x=true:=GO e2
      have h8:D.length≠8:=by
       unfold full at hfull;rw[if_pos (.inl e2)]at hfull;rw[←h.dj]
       simpa using hfull
      have hle:=h.le8;have hd:zz c.parts nv=⟨1,x.n.toNat,[],D.length,0,0,[],[]⟩∧nv<c.parts.length:=hd0.resolve_right (λq=>q e2);rw[g1,g2];simp only[if_true];rw[if_pos e2]at hs;by_cases hsz:1≤x.n∧x.n≤2048
      ·rw[if_neg (not_not_intro hsz)]at hs
       cases hs;refine⟨by show c.devs++ [_]=_;rw[h.devs,List.map_append];rfl,?_,?_,by simp;omega,λy hy=>?_,λj hj'=>?_,h.parts,h.few,h.nms.snoc (λe=>?_) (λe=>?_),λy hy=>?_,h.expo,xM _ h.uniq hlk,by simp[h.nlen]⟩
       ·show qY (c.names++ [_]) _=_
        rw[yr,h.dev];simp only[e2];rfl
       ·show qY (c.names++ [_]) _=_
        rw[yr,h.dj,List.length_append];simp only[e2];rfl
       ·rcases List.mem_append.1 hy with q|q
        ·exact h.ok y q
        ·rw[List.mem_singleton.1 q];exact hsz
       ·obtain⟨y,hy,ho⟩:=h.jour j hj'
        exact⟨y,by rw[List.getElem?_append_left (List.getElem?_eq_some_iff.1 hy).1];exact hy,ho⟩
       ·show yn c.parts (qY c.names [zd])
        rw[h.dev];refine⟨hd.2,?_⟩;unfold sz;rw[hd.1];show 1≤x.n.toNat∧x.n.toNat≤8192;omega
       ·rcases e with e|e
        ·exact absurd (e2.symm.trans e) (by decide)
        ·exact absurd (e2.symm.trans e) (by decide)
       ·rcases List.mem_append.1 hy with q|q
        ·exact h.byts y q
        ·rw[List.mem_singleton.1 q];exact Nat.zero_le _
      ·rw[if_pos hsz]at hs;cases hs
     ·have g1:vX x=false:=FJ (by simp[e1,e2])
      have g2:yl x=false:=kJ e2;rw[g1,g2];simp only[Bool.false_eq_true,if_false,List.append_nil,Nat.add_zero];rw[if_neg e2]at hs
      have c1:∀m:Mn,m.word=x.op→qY (c.names++ [(x.s,m)]) [zd]=nv:=λm hm=>by
       rw[yr,h.dev,if_neg (by simp[hm,e2])];rfl
      have c2:∀m:Mn,m.word=x.op→qY (c.names++ [(x.s,m)]) [zd,zj]=D.length:=λm hm=>by
       rw[yr,h.dj,if_neg (by simp[hm,e1,e2])];rfl
      by_cases e3:x.op=qj∨x.op=zS
      ·rw[if_pos e3]at hs
       by_cases hlen:(jA x.l 0).s.length≠64
       ·rw[if_pos hlen]at hs;cases hs
       ·rw[if_neg hlen]at hs
        cases hs;have hun:=Zp 32 (jA x.l 0).s (by omega);refine⟨h.devs,c1 _ rfl,c2 _ rfl,h.le8,h.ok,h.jour,h.parts,h.few,h.nms.snoc (λe=>?_) (λe=>hun),λy hy=>?_,h.expo,xM _ h.uniq hlk,by simp[h.nlen]⟩
        ·rcases e3 with e3|e3<;>rcases e with e|e<;>exact absurd (e3.symm.trans e) (by decide)
        ·rcases List.mem_append.1 hy with q|q
         ·exact h.byts y q
         ·rw[List.mem_singleton.1 q]
          show(jZ _).length≤1000;omega
      ·rw[if_neg e3]at hs
       have e4:x.op=zr:=by
        rcases hx.word with e|e|e|e|e|e
        ·exact absurd e e2
        ·exact absurd e e1
        ·exact absurd (.inl e) e3
        ·exact absurd (.inr e) e3
        ·exact e
        ·exact absurd e e0
       cases hc:qP c.names 12 c.parts (jA x.l 0)with
       |error e=>rw[hc]at hs;cases hs
       |ok y =>
        obtain⟨k,ps⟩:=y;rw[hc]at hs;cases hs;have hfw:=xW 12 _ _ _ _ hc;obtain⟨rs,e5,hk,hg⟩:=Q8 12 h.nms ((hx.vol e4).2.ok) hc;have hfew:=h.few;obtain⟨rs0,e6,hg0⟩:=h.parts;subst e5;refine⟨h.devs,c1 _ rfl,c2 _ rfl,h.le8,h.ok,h.jour,⟨rs0++rs,?_,hg0.app (by rw[←e6];exact hg)⟩,?_,(h.nms.more rs).snoc (λe=>hk) (λe=>?_),λy hy=>?_,λy hy=>(h.expo y hy).more rs,xM _ h.uniq hlk,by simp[h.nlen]⟩
        ·show c.parts++rs=_
         rw[e6,List.append_assoc]
        ·show(c.parts++rs).length≤_
         omega
        ·rcases e with e|e<;>exact absurd (e4.symm.trans e) (by decide)
        ·rcases List.mem_append.1 hy with q|q
         ·exact h.byts y q
         ·rw[List.mem_singleton.1 q];exact Nat.zero_le _
theorem Ud{rs:List Pt}:∀ {ps:List Pt},Grown' ps rs→∀i (h:i<rs.length),um (ps++rs.take i) rs[i]:=by
 induction rs with
 |nil=>intro ps _ i h;cases h
 |cons p rs ih =>
  intro ps h i hi;cases i with
  |zero=>simpa using h.1
  |succ i =>
   have:=ih h.2 i (by simpa using hi)
   simpa using this
theorem uj{l:List Nd}:∀ {d:Nat} {p:Pt},p ∈ zV d l→∃j x,(l.filter vX)[j]?=some x∧x.op=zd∧p=⟨1,x.n.toNat,[],d+j,0,0,[],[]⟩:=by
 induction l with
 |nil=>intro d p h;cases h
 |cons y l ih =>
  intro d p h;simp only[zV]at h;by_cases h1:y.op=zd
  ·rw[if_pos h1]at h
   have e:(y::l).filter vX=y::l.filter vX:=by rw[List.filter_cons,if_pos (UU (.inl h1))]
   rw[e];rcases List.mem_cons.1 h with q|q
   ·exact⟨0,y,rfl,h1,q⟩
   ·obtain⟨j,x,a,b,c⟩:=ih q
    exact⟨j+1,x,by simpa using a,b,by rw[c];simp;omega⟩
  ·rw[if_neg h1]at h
   by_cases h2:y.op=zj
   ·rw[if_pos h2]at h
    have e:(y::l).filter vX=y::l.filter vX:=by rw[List.filter_cons,if_pos (UU (.inr h2))]
    rw[e];obtain⟨j,x,a,b,c⟩:=ih h;exact⟨j+1,x,by simpa using a,b,by rw[c];simp;omega⟩
   ·rw[if_neg h2]at h
    have e:(y::l).filter vX=l.filter vX:=by rw[List.filter_cons,FJ (by simp[h1,h2])];rfl
    rw[e];exact ih h
theorem Jt.part{l:List Nd}{c:Ck}(h:Jt l l c){i:Nat}(hi:i<c.parts.length):(∃j x,(l.filter vX)[j]?=some x∧x.op=zd∧c.parts[i]=⟨1,x.n.toNat,[],j,0,0,[],[]⟩∧1≤x.n∧x.n≤2048)∨um (c.parts.take i) c.parts[i]:=by
 obtain⟨rs,e,hg⟩:=h.parts;by_cases hd:i<(zV 0 l).length
 ·left
  have hm:c.parts[i] ∈ zV 0 l:=by
   simp only[e,List.getElem_append_left hd];exact List.getElem_mem hd
  obtain⟨j,x,a,b,q⟩:=uj hm;rw[Nat.zero_add]at q;exact⟨j,x,a,b,q,h.ok x (List.mem_of_getElem? a)⟩
 ·right
  have hr:i-(zV 0 l).length<rs.length:=by rw[e,List.length_append]at hi;omega
  have:=Ud hg _ hr;have e2:c.parts.take i=zV 0 l++rs.take (i-(zV 0 l).length):=by rw[e,List.take_append,List.take_of_length_le (by omega)]
  have e3:c.parts[i]=rs[i-(zV 0 l).length]:=by simp only[e,List.getElem_append_right (Nat.le_of_not_lt hd)]
  rw[e2,e3];exact this
theorem QA{ps:List Pt}{i k:Nat}(h:yn (ps.take i) k):k<i∧yn ps k:=by
 have h1:=h.1;rw[List.length_take]at h1;have:=h.more (ps.drop i);rw[List.take_append_drop]at this;exact⟨by omega,this⟩
theorem Jt.wf{l:List Nd}{c:Ck}(h:Jt l l c):V8 c.parts:=by
 refine⟨λi hi k hk=>?_,λi hi=>?_,λi hi=>?_,λi hi e=>?_,λi hi e=>?_,λi hi=>?_,λi hi=>?_⟩
 ·rw[ju hi]at hk
  rcases h.part hi with⟨j,x,_,_,q,_⟩|q
  ·rw[q]at hk;cases hk
  ·exact(QA (q.kids k hk)).1
 ·unfold sz
  rw[ju hi];rcases h.part hi with⟨j,x,_,_,q,_⟩|q
  ·rw[q];show x.n.toNat≤8192;omega
  ·exact q.hi
 ·rw[ju hi]
  rcases h.part hi with⟨j,x,_,_,q,_⟩|q
  ·rw[q];exact Nat.zero_le _
  ·have:=q.fst;omega
 ·rw[ju hi]at e ⊢
  rcases h.part hi with⟨j,x,_,_,q,_⟩|q
  ·rw[q]at e;cases e
  ·exact(q.snap e).1
 ·rw[ju hi]at e ⊢
  rcases h.part hi with⟨j,x,_,_,q,_⟩|q
  ·rw[q]at e;rcases e with e|e<;>cases e
  ·rw[q.one (.inr (.inr e))];exact Nat.le_refl _
 ·rw[ju hi]
  rcases h.part hi with⟨j,x,_,_,q,_⟩|q
  ·rw[q];exact Nat.zero_le _
  ·have:=q.four;omega
 ·rw[ju hi]
  rcases h.part hi with⟨j,x,_,_,q,_⟩|q
  ·rw[q];exact⟨Nat.le_refl _,by show 1≤8;decide⟩
  ·exact⟨by have:=q.kind;omega,q.kind.2⟩
end
section
open Go.ChangeShapes Go.WideShapes Go.ChangeAt Go.RowKit Go.MapKept
variable {E:Nat→Prop}
def JY(E:Nat→Prop)(w:World)(cb:Nat)(V:CV)(R:Except Er (Ck×Mn))(e:Ending)(w':World):Prop:=j9 (V.own cb) w w'∧match R with
 | .error (ec,ek)=>e= .panicked (Vi ec ek)
 | .ok (c',m)=>∃u V',e= .returned (Yb m u)∧VB w' (λg=>¬V'.own cb g∧(E g∨w.heap.size≤g)) m u∧zG (λg=>E g∨w.heap.size≤g) w' cb V' c'∧qT cb V w V' w'
theorem zG.other{w:World}{cb:Nat}{V:CV}{c:Ck}(h:zG E w cb V c)(q:Addr)(hq:¬V.own cb q.block)(hE:¬E q.block)(v:Value):zG E (w.setCell q v) cb V c:=by
 have hk:∀k,k<w.heap.size→(¬V.own cb k∧E k)→(w.setCell q v).heap[k]?=w.heap[k]?∧(¬V.own cb k∧E k):=λk hk hh=>⟨Below.heap_setCell w q v k (by rintro rfl;exact hE hh.2),hh⟩
 have kept:∀ {k:Nat} {o:Obj},V.own cb k→w.heap[k]?=some o→(w.setCell q v).heap[k]?=some o:=λ{k o} ho hh=>(Below.heap_setCell w q v k (by rintro rfl;exact hq ho)).trans hh
 obtain⟨us,e1,r1,i1⟩:=h.prts;obtain⟨ms,e2,r2,i2⟩:=h.nms;have hsz:w.heap.size≤(w.setCell q v).heap.size:=by simp
 exact⟨kept (.inl rfl) h.has,zE h.devs (λg o e ho=>kept (.inr (.inl e)) ho),zE h.only (λg o e ho=>kept (.inr (.inr (.inr (.inl e)))) ho),⟨us,e1,zE r1 (λg o e ho=>kept (.inr (.inr (.inl e))) ho),λi a b=>(i1 i a b).keep hsz hk⟩,⟨ms,e2,kept (.inr (.inr (.inr (.inr rfl)))) r2,λi a b=>(i2 i a b).keep hsz hk⟩,h.uniq,h.mlt,h.few⟩
theorem qT.set{cb:Nat}{V V':CV}{w w':World}(s:qT cb V w V' w'){q:Addr}(hq:w.heap.size≤q.block)(v:Value):qT cb V w V' (w'.setCell q v):=⟨s.only.set (.inr hq) v,s.new⟩
theorem zG.other3{w:World}{cb:Nat}{V:CV}{c:Ck}(h:zG E w cb V c)(g:Nat)(hq:¬V.own cb g)(hE:¬E g)(x0 x1 x2:Value):zG E (((w.setCell ⟨g,0,none⟩ x0).setCell ⟨g,1,none⟩ x1).setCell ⟨g,2,none⟩ x2) cb V c:=((h.other ⟨g,0,none⟩ hq hE x0).other ⟨g,1,none⟩ hq hE x1).other ⟨g,2,none⟩ hq hE x2
theorem qT.set3{cb:Nat}{V V':CV}{w w':World}(s:qT cb V w V' w'){g:Nat}(hq:w.heap.size≤g)(x0 x1 x2:Value):qT cb V w V' (((w'.setCell ⟨g,0,none⟩ x0).setCell ⟨g,1,none⟩ x1).setCell ⟨g,2,none⟩ x2):=((s.set (q:=⟨g,0,none⟩) hq x0).set (q:=⟨g,1,none⟩) hq x1).set (q:=⟨g,2,none⟩) hq x2
theorem zG.vdv{w:World}{cb:Nat}{V:CV}{c:Ck}(h:zG E w cb V c):∃A C,V.vd= .slice A c.devs.length C:=by
 rcases h.devs.2 with⟨e,h0⟩|⟨b,cap,cur,e,_⟩
 ·exact⟨none,0,by rw[e,h0]⟩
 ·exact⟨_,_,e⟩
theorem Ky{w:World}{P:Nat→Prop}{m:Mn}(h:m.bytes= []):VB w P m (.slice none 0 0):=⟨none,0,by rw[h];rfl,by rw[h];exact Nat.le_refl _,by unfold maxLen;omega,.inl h⟩
theorem Zu{w:World}{cb:Nat}{V:CV}{c:Ck}(h:zG E w cb V c):zG (λg=>E g∧g<w.heap.size) w cb V c:=h.mono (λk hk _ he=>⟨he,hk⟩)
theorem xL{w:World}(a b c:Obj):Below w.heap.size w (((w.alloc a).alloc b).alloc c):=((Below.refl _ w).alloc (Nat.le_refl _) a |>.alloc (by simp) b).alloc (by simp;omega) c
end
end Go.Proofs.YtgljdaakdpgpkaaGreatDoor
