import Derived.Test.YtebcfkigbbolaaaGreatDoorJoint10
import Derived.Test.YtebcfkigbbolaaaGreatDoorJoint05
import Derived.Test.YtebcfkigbbolaaaGreatDoorJoint08
import Derived.Test.YtebcfkigbbolaaaGreatDoorJoint02
import Derived.Test.YtebcfkigbbolaaaGreatDoorJoint06
import Derived.Ground.SlbCloneProg
import Derived.Shelf.Bytes.SlClone
import Derived.Shelf.Bytes.SlEqualAll
import Derived.Shelf.Bytes.Small
import Derived.Test.YtebcfkigbbolaaaGreatDoorProg
import Derived.Test.YtebcfkigbbolaaaGreatDoorJoint01
namespace Go.Proofs.YtebcfkigbbolaaaGreatDoor
set_option linter.unusedVariables false
set_option maxRecDepth 100000
set_option maxHeartbeats 40000000
section
open Go.ChangeShapes Go.WideShapes Go.ChangeAt Go.RowKit Go.MapKept Go.Shelf
variable {E:Nat→Prop}
def DY(E:Nat→Prop)(w:World)(cb:Nat)(V:CV)(c:Ck)(p:Pt)(e:Ending)(w':World):Prop:=e= .returned (.int .i64 (c.parts.length:Nat))∧∃V',zM E w' cb V' { c with parts:=c.parts++ [p] }∧je cb V w V' w'
theorem YO{o:Oper}{a:Act}(x:Operand)(ho:o.op= .binOp .eql 44 x (.const (.int .i64 8)) 44)(K:Int)(hx:a.eval x= .int .i64 K)(b:Bool)(hb:(K==8)=b)(w:World):(execOp a.eval o).run Tryz.prog w= .ok (.value (.bool b)) w:=by
 unfold execOp;simp only[ho,hx];subst hb;go_simp
theorem JY{o:Oper}{a:Act}(x:Operand)(ho:o.op= .slice 29 x (some (.const (.int .i64 1))) none none)(b off L cap:Nat)(hx:a.eval x= .slice (some ⟨b,off,none⟩) L cap)(h1:1≤L)(h2:cap≠1)(w:World):
 (execOp a.eval o).run Tryz.prog w= .ok (.value (.slice (some ⟨b,off+1,none⟩) (L-1) (cap-1))) w:=by
 unfold execOp;simp only[ho,hx,Option.map_some,Option.map_none];simp[Act.eval,Instr.sliceAt,Instr.slice,Instr.sliceBounds,Instr.sliceBound,run_underlying Tryz.underlying29,go_sem,asIntOf,h2];intro h;omega
theorem Yr{w:World}{cb:Nat}{V:CV}{c:Ck}(h:zM E w cb V c)(p:Pt)(Ak:Option Addr)(Ck:Nat)(A2:Option Addr)(C2:Nat)(A3:Option Addr)(C3:Nat)(hu:Qk w (λg=>¬V.own cb g∧E g) p (.slice Ak p.kids.length Ck,.slice A2 p.key.length C2,.slice A3 p.root.length C3))(hkids:∀k ∈ p.kids,k<c.parts.length)(hkl:p.kids.length≤1000)(hk5:p.kind≠5)(hk8:p.kind≠8)(hfew:c.parts.length≤90000):
 Calls Tryz.prog 84 #[.pointer (some ⟨cb,0,none⟩),.agg #[.int .i64 (p.kind:Nat),.int .i64 (p.size:Nat),.slice Ak p.kids.length Ck,.int .i64 (p.dev:Nat),.int .i64 (p.first:Nat),.int .i64 (p.chunk:Nat),.slice A2 p.key.length C2,.slice A3 p.root.length C3]] w (DY E w cb V c p):=by
 obtain⟨W2,hW2⟩:∃W2,W2=(w.alloc (.cells #[.pointer (some ⟨cb,0,none⟩)] 64)).alloc (.cells #[.int .i64 (p.kind:Nat),.int .i64 (p.size:Nat),.slice Ak p.kids.length Ck,.int .i64 (p.dev:Nat),.int .i64 (p.first:Nat),.int .i64 (p.chunk:Nat),.slice A2 p.key.length C2,.slice A3 p.root.length C3] 47):=⟨_,rfl⟩
 have hb2:Below w.heap.size w W2:=by rw[hW2];exact qv w _ _
 have bx2:ze W2 w.heap.size 64 #[.pointer (some ⟨cb,0,none⟩)]:=by rw[hW2];exact(ze.new w _ _).alloc _
 have px2:ze W2 (w.heap.size+1) 47 #[.int .i64 (p.kind:Nat),.int .i64 (p.size:Nat),.slice Ak p.kids.length Ck,.int .i64 (p.dev:Nat),.int .i64 (p.first:Nat),.int .i64 (p.chunk:Nat),.slice A2 p.key.length C2,.slice A3 p.root.length C3]:=by rw[hW2];exact ze.new_at (by simp)
 have h2:zM E W2 cb V c:=h.keep hb2;have hbxn:¬V.own cb w.heap.size:=λe=>by have:=(h.low e).2;omega
 have hpxn:¬V.own cb (w.heap.size+1):=λe=>by have:=(h.low e).2;omega
 obtain⟨Ak',Ck',ek,hkc,hkm,hki⟩:=hu.kids;cases ek;have hK8:(((p.kind:Nat):Int)==8)=false:=by rw[beq_eq_false_iff_ne];omega
 have hK5:(((p.kind:Nat):Int)==5)=false:=by rw[beq_eq_false_iff_ne];omega
 have hob:Zt (qg c.parts) p=(p.kids.any (λk=>(qg c.parts).getD k false)):=by
  unfold Zt;rw[show(p.kind==8)=false by rw[beq_eq_false_iff_ne];exact hk8,show(p.kind==5)=false by rw[beq_eq_false_iff_ne];exact hk5];simp
 have hany:=U4 116 #[.pointer (some ⟨w.heap.size,0,none⟩)] Ak p.kids.length Ck p.kids (λk=>(qg c.parts).getD k false) W2 (enters_of Tryz.func116 (by kernel_rfl) rfl) rfl (by omega) _ (hki.keep (Q:=λ_=>True) hb2.size (λk hk hn=>⟨hb2.block k hk,trivial⟩)) (λi hi W hW=>uj (h2.keep hW) w.heap.size p.kids[i] (hkids _ (List.getElem_mem hi)) (za hW (bx2.cell 0)))
 obtain⟨B,hB⟩:∃B,p.kids.any (λk=>(qg c.parts).getD k false)=B:=⟨_,rfl⟩
 rw[hB]at hany hob;have HOB:Hid (Zt (qg c.parts) p=B):=hob;have HW:Hid (W2=(w.alloc (.cells #[.pointer (some ⟨cb,0,none⟩)] 64)).alloc (.cells #[.int .i64 (p.kind:Nat),.int .i64 (p.size:Nat),.slice Ak p.kids.length Ck,.int .i64 (p.dev:Nat),.int .i64 (p.first:Nat),.int .i64 (p.chunk:Nat),.slice A2 p.key.length C2,.slice A3 p.root.length C3] 47)):=hW2;rw[hW2]at hany;clear hob hB hW2;have G2:=h2.g;go_enter Tryz.func84,Tryz.ntmps84
 go_wp2_with (first
  |((go_at_call 115)
    refine hany.mono ?_;rintro e w3 ⟨rfl,hb3⟩;(rw[←HW.out]at hb3)))
 have G3:=G2.keep hb3;have bx3h:=bx2.below hb3 bx2.lt;have px3h:=px2.below hb3 px2.lt;have bx3:=bx3h.cell 0;have px3:=px3h.cell 0;have cb6:=G3.has.cell 6;refine vu (S:=λwz=>wz.cell? ⟨w.heap.size,0,none⟩=some (.pointer (some ⟨cb,0,none⟩))∧wz.cell? ⟨cb,6,none⟩=some V.vb∧wz.cell? ⟨w.heap.size+1,0,none⟩=some (.int .i64 (p.kind:Nat))) 15 (by kernel_rfl) (⟨bx3,cb6,px3⟩) (λhHeld=>?_);refine vK 0 (some 18) (.pointer (some ⟨cb,0,none⟩)) rfl rfl (λwz hz=>by obtain⟨z0,z1,z2⟩:=hz;unfold execOp;go_simp) hHeld ?_;simp only[Act.put,zk,zj,zl];refine vK 1 (some 19) (.pointer (some ⟨cb,0,none⟩)) rfl rfl (λwz hz=>by obtain⟨z0,z1,z2⟩:=hz;unfold execOp;go_simp) hHeld ?_;simp only[Act.put,zk,zj,zl];refine vI 2 (some 20) (.pointer (some ⟨cb,0,none⟩)) hHeld ?_;simp only[Act.put,zk,zj,zl];refine vI 3 (some 21) (.pointer (some ⟨cb,6,none⟩)) hHeld ?_;simp only[Act.put,zk,zj,zl];refine vK 4 (some 22) (V.vb) rfl rfl (λwz hz=>by obtain⟨z0,z1,z2⟩:=hz;unfold execOp;go_simp) hHeld ?_;simp only[Act.put,zk,zj,zl];refine vI 5 (some 23) (.pointer (some ⟨w.heap.size+1,0,none⟩)) hHeld ?_;simp only[Act.put,zk,zj,zl];refine vK 6 (some 24) (.int .i64 (p.kind:Nat)) rfl rfl (λwz hz=>by obtain⟨z0,z1,z2⟩:=hz;unfold execOp;go_simp) hHeld ?_;simp only[Act.put,zk,zj,zl];refine vK 7 (some 25) (.bool false) rfl rfl (λwz hz=>YO _ rfl (p.kind:Nat) rfl false hK8 wz) hHeld ?_;simp only[Act.put,zk,zj,zl];refine vI 8 (some 26) (.bool false) hHeld ?_;simp only[Act.put,zk,zj,zl];refine vI 9 (some 27) (.bool B) hHeld ?_;simp only[Act.put,zk,zj,zl];refine vK 10 (some 28) (.bool B) rfl rfl (λ_ _=>by kernel_rfl) hHeld ?_;simp only[Act.put,zk,zj,zl]
 have hS2:(w3.drew.alloc (.cells #[.bool B] 4)).cell? ⟨w.heap.size,0,none⟩=some (.pointer (some ⟨cb,0,none⟩))∧(w3.drew.alloc (.cells #[.bool B] 4)).cell? ⟨cb,6,none⟩=some V.vb∧(w3.drew.alloc (.cells #[.bool B] 4)).cell? ⟨w.heap.size+1,0,none⟩=some (.int .i64 (p.kind:Nat)):=⟨za (zd w3.drew _) hHeld.1,za (zd w3.drew _) hHeld.2.1,za (zd w3.drew _) hHeld.2.2⟩
 refine jp 11 (some 29) (.slice (some ⟨w3.heap.size,0,none⟩) 1 1) (w3.drew.alloc (.cells #[.bool B] 4)) (by kernel_rfl) rfl rfl (by rfl) (by kernel_rfl) hS2 ?_;simp only[Act.put,zk,zj,zl];have G3d:=(G3.keep (zu (Below.refl _ w3))).keep (zd w3.drew (.cells #[.bool B] 4));obtain⟨A6,C6,w6,hr6,hrow6,hg6,hw6⟩:=jP Ul (ty:=66) (w3.drew.alloc (.cells #[.bool B] 4)) cb (qg c.parts).length _ _ G3d.only (by have:=G3d.has.lt;omega) (by rw[vD];have:=h.few.1;omega) [.bool B] rfl (by intro u hu;simp at hu;subst hu;rfl) w3.heap.size (ze.new_at rfl);obtain⟨G6,S6⟩:=G3d.putOnly hg6 hrow6 hw6;have bx6:ze w6 (w.heap.size) 64 #[.pointer (some ⟨cb,0,none⟩)]:=zQ ((zq bx3h).alloc _) hg6 (λe=>hbxn (.inr (.inr (.inr (.inl e)))));have px6:ze w6 (w.heap.size+1) 47 #[.int .i64 (p.kind:Nat),.int .i64 (p.size:Nat),.slice Ak p.kids.length Ck,.int .i64 (p.dev:Nat),.int .i64 (p.first:Nat),.int .i64 (p.chunk:Nat),.slice A2 p.key.length C2,.slice A3 p.root.length C3]:=zQ ((zq px3h).alloc _) hg6 (λe=>hpxn (.inr (.inr (.inr (.inl e)))));have cb6h:=zQ G3d.has hg6 (zJ G3d.only G3d.has (by decide))
 have hS6:w6.cell? ⟨w.heap.size,0,none⟩=some (.pointer (some ⟨cb,0,none⟩))∧w6.cell? ⟨cb,6,none⟩=some V.vb∧w6.cell? ⟨w.heap.size+1,0,none⟩=some (.int .i64 (p.kind:Nat)):=⟨bx6.cell 0,cb6h.cell 6,px6.cell 0⟩
 refine jp 12 (some 30) (.slice A6 ((qg c.parts).length+1) C6) w6 (by kernel_rfl) rfl rfl (by rfl) (jO _ _ rfl rfl rfl hr6) hS6 ?_;simp only[Act.put,zk,zj,zl];refine jp 13 (some 31) (.pointer (some ⟨cb,0,none⟩)) w6 (by kernel_rfl) rfl rfl (by rfl) rfl hS6 ?_;simp only[Act.put,zk,zj,zl];refine jp 14 (some 32) (.pointer (some ⟨cb,6,none⟩)) w6 (by kernel_rfl) rfl rfl (by rfl) rfl hS6 ?_;simp only[Act.put,zk,zj,zl];have q6:=cb6h.cell 6;have f6:=cb6h.free 6;refine jA 15 none (w6.setCell ⟨cb,6,none⟩ (.slice A6 ((qg c.parts).length+1) C6)) (by kernel_rfl) rfl rfl (by rfl) (by unfold execOp;go_simp) (by kernel_rfl) ?_;simp only[Act.put];have hS05:je cb V w { V with vb:= .slice A6 ((qg c.parts).length+1) C6 } (w6.setCell ⟨cb,6,none⟩ (.slice A6 ((qg c.parts).length+1) C6)):=(je.of ((hb2.trans (hb3.mono hb2.size)).trans (((zu (Below.refl _ w3)).trans (zd w3.drew _)).mono (show w.heap.size≤w3.heap.size from Nat.le_trans hb2.size hb3.size)))).trans S6;have HU5:=hu.keep hS05.only.size hS05.innerE;have bx5:=bx6.other (p:=⟨cb,6,none⟩) (by show w.heap.size≠cb;have:=h.has.lt;omega) (.slice A6 ((qg c.parts).length+1) C6);have px5:=px6.other (p:=⟨cb,6,none⟩) (by show w.heap.size+1≠cb;have:=h.has.lt;omega) (.slice A6 ((qg c.parts).length+1) C6);have cb52:=G6.has.cell 2;generalize w6.setCell ⟨cb,6,none⟩ (.slice A6 ((qg c.parts).length+1) C6)=W5 at G6 hS05 HU5 bx5 px5 cb52 ⊢;simp only[jg,jd,jf]at cb52;clear hS6 S6 hr6 hrow6 hg6 hw6 hS2 hHeld
 go_wp2
 refine vu (S:=λwz=>ze wz w.heap.size 64 #[.pointer (some ⟨cb,0,none⟩)]∧wz.cell? ⟨w.heap.size,0,none⟩=some (.pointer (some ⟨cb,0,none⟩))∧wz.cell? ⟨cb,2,none⟩=some V.vp∧ze wz (w.heap.size+1) 47 #[.int .i64 (p.kind:Nat),.int .i64 (p.size:Nat),.slice Ak p.kids.length Ck,.int .i64 (p.dev:Nat),.int .i64 (p.first:Nat),.int .i64 (p.chunk:Nat),.slice A2 p.key.length C2,.slice A3 p.root.length C3]) 12 (by kernel_rfl) (⟨bx5,bx5.cell 0,cb52,px5⟩) (λhHeld=>?_);refine vK 0 (some 33) (.pointer (some ⟨cb,0,none⟩)) rfl rfl (λwz hz=>by obtain⟨z9,z0,z1,z2⟩:=hz;unfold execOp;go_simp) hHeld ?_;simp only[Act.put,zk,zj,zl];refine vK 1 (some 34) (.pointer (some ⟨cb,0,none⟩)) rfl rfl (λwz hz=>by obtain⟨z9,z0,z1,z2⟩:=hz;unfold execOp;go_simp) hHeld ?_;simp only[Act.put,zk,zj,zl];refine vI 2 (some 35) (.pointer (some ⟨cb,0,none⟩)) hHeld ?_;simp only[Act.put,zk,zj,zl];refine vI 3 (some 36) (.pointer (some ⟨cb,0,none⟩)) hHeld ?_;simp only[Act.put,zk,zj,zl];refine vI 4 (some 37) (.pointer (some ⟨cb,2,none⟩)) hHeld ?_;simp only[Act.put,zk,zj,zl];refine vK 5 (some 38) (V.vp) rfl rfl (λwz hz=>by obtain⟨z9,z0,z1,z2⟩:=hz;unfold execOp;go_simp) hHeld ?_;simp only[Act.put,zk,zj,zl];refine vK 6 (some 39) (.agg #[.int .i64 (p.kind:Nat),.int .i64 (p.size:Nat),.slice Ak p.kids.length Ck,.int .i64 (p.dev:Nat),.int .i64 (p.first:Nat),.int .i64 (p.chunk:Nat),.slice A2 p.key.length C2,.slice A3 p.root.length C3]) rfl rfl (λwz hz=>qS _ rfl (w.heap.size+1) 0 rfl wz (λj hj=>by rw[Nat.zero_add];exact hz.2.2.2.cell j)) hHeld ?_;simp only[Act.put,zk,zj,zl]
 have hT2:ze (W5.drew.alloc (.cells #[.int .i64 (p.kind:Nat),.int .i64 (p.size:Nat),.slice Ak p.kids.length Ck,.int .i64 (p.dev:Nat),.int .i64 (p.first:Nat),.int .i64 (p.chunk:Nat),.slice A2 p.key.length C2,.slice A3 p.root.length C3] 47)) w.heap.size 64 #[.pointer (some ⟨cb,0,none⟩)]∧(W5.drew.alloc (.cells #[.int .i64 (p.kind:Nat),.int .i64 (p.size:Nat),.slice Ak p.kids.length Ck,.int .i64 (p.dev:Nat),.int .i64 (p.first:Nat),.int .i64 (p.chunk:Nat),.slice A2 p.key.length C2,.slice A3 p.root.length C3] 47)).cell? ⟨w.heap.size,0,none⟩=some (.pointer (some ⟨cb,0,none⟩))∧(W5.drew.alloc (.cells #[.int .i64 (p.kind:Nat),.int .i64 (p.size:Nat),.slice Ak p.kids.length Ck,.int .i64 (p.dev:Nat),.int .i64 (p.first:Nat),.int .i64 (p.chunk:Nat),.slice A2 p.key.length C2,.slice A3 p.root.length C3] 47)).cell? ⟨cb,2,none⟩=some V.vp∧ze (W5.drew.alloc (.cells #[.int .i64 (p.kind:Nat),.int .i64 (p.size:Nat),.slice Ak p.kids.length Ck,.int .i64 (p.dev:Nat),.int .i64 (p.first:Nat),.int .i64 (p.chunk:Nat),.slice A2 p.key.length C2,.slice A3 p.root.length C3] 47)) (w.heap.size+1) 47 #[.int .i64 (p.kind:Nat),.int .i64 (p.size:Nat),.slice Ak p.kids.length Ck,.int .i64 (p.dev:Nat),.int .i64 (p.first:Nat),.int .i64 (p.chunk:Nat),.slice A2 p.key.length C2,.slice A3 p.root.length C3]:=⟨(zq bx5).alloc _,((zq bx5).alloc _).cell 0,za (zd W5.drew _) hHeld.2.2.1,(zq px5).alloc _⟩
 refine jp 7 (some 40) (.slice (some ⟨W5.heap.size,0,none⟩) 1 1) (W5.drew.alloc (.cells #[.int .i64 (p.kind:Nat),.int .i64 (p.size:Nat),.slice Ak p.kids.length Ck,.int .i64 (p.dev:Nat),.int .i64 (p.first:Nat),.int .i64 (p.chunk:Nat),.slice A2 p.key.length C2,.slice A3 p.root.length C3] 47)) (by kernel_rfl) rfl rfl (by rfl) (by kernel_rfl) hT2 ?_;simp only[Act.put,zk,zj,zl];have hb5:Below W5.heap.size W5 (W5.drew.alloc (.cells #[.int .i64 (p.kind:Nat),.int .i64 (p.size:Nat),.slice Ak p.kids.length Ck,.int .i64 (p.dev:Nat),.int .i64 (p.first:Nat),.int .i64 (p.chunk:Nat),.slice A2 p.key.length C2,.slice A3 p.root.length C3] 47)):=(zu (Below.refl _ W5)).trans (zd W5.drew _);have G5d:=G6.keep hb5;obtain⟨us,e1,hpr,hpi⟩:=G5d.prts;obtain⟨A7,C7,w7,hr7,hrow7,hg7,hw7⟩:=jP U9 (ty:=30) (W5.drew.alloc (.cells #[.int .i64 (p.kind:Nat),.int .i64 (p.size:Nat),.slice Ak p.kids.length Ck,.int .i64 (p.dev:Nat),.int .i64 (p.first:Nat),.int .i64 (p.chunk:Nat),.slice A2 p.key.length C2,.slice A3 p.root.length C3] 47)) cb c.parts.length _ _ hpr (by have:=G5d.has.lt;omega) (by omega) #[.int .i64 (p.kind:Nat),.int .i64 (p.size:Nat),.slice Ak p.kids.length Ck,.int .i64 (p.dev:Nat),.int .i64 (p.first:Nat),.int .i64 (p.chunk:Nat),.slice A2 p.key.length C2,.slice A3 p.root.length C3].toList rfl (by intro u hu;simp at hu;rcases hu with rfl|rfl|rfl|rfl|rfl|rfl|rfl|rfl<;>rfl) W5.heap.size (ze.new_at rfl);have hu5:=HU5.keep (Q:=λg=>¬({ V with vb:= .slice A6 ((qg c.parts).length+1) C6 }:CV).own cb g∧E g) hb5.size (λk hk hn=>⟨hb5.block k hk,hn⟩);obtain⟨G7,S7⟩:=G5d.putPart (p:=p) e1 hpr hpi hu5 hg7 hrow7 hw7;have cb7h:=zQ G5d.has hg7 (zJ hpr G5d.has (by decide));have bx7:ze w7 w.heap.size 64 #[.pointer (some ⟨cb,0,none⟩)]:=zQ ((zq bx5).alloc _) hg7 (zJ hpr ((zq bx5).alloc _) (by decide));have px7:ze w7 (w.heap.size+1) 47 #[.int .i64 (p.kind:Nat),.int .i64 (p.size:Nat),.slice Ak p.kids.length Ck,.int .i64 (p.dev:Nat),.int .i64 (p.first:Nat),.int .i64 (p.chunk:Nat),.slice A2 p.key.length C2,.slice A3 p.root.length C3]:=zQ ((zq px5).alloc _) hg7 (λe=>hpxn (.inr (.inr (.inl e))))
 have hT7:ze w7 w.heap.size 64 #[.pointer (some ⟨cb,0,none⟩)]∧w7.cell? ⟨w.heap.size,0,none⟩=some (.pointer (some ⟨cb,0,none⟩))∧w7.cell? ⟨cb,2,none⟩=some V.vp∧ze w7 (w.heap.size+1) 47 #[.int .i64 (p.kind:Nat),.int .i64 (p.size:Nat),.slice Ak p.kids.length Ck,.int .i64 (p.dev:Nat),.int .i64 (p.first:Nat),.int .i64 (p.chunk:Nat),.slice A2 p.key.length C2,.slice A3 p.root.length C3]:=⟨bx7,bx7.cell 0,cb7h.cell 2,px7⟩
 refine jp 8 (some 41) (.slice A7 (c.parts.length+1) C7) w7 (by kernel_rfl) rfl rfl (by rfl) (jO _ _ rfl rfl rfl hr7) hT7 ?_;simp only[Act.put,zk,zj,zl];refine jp 9 (some 42) (.pointer (some ⟨cb,0,none⟩)) w7 (by kernel_rfl) rfl rfl (by rfl) rfl hT7 ?_;simp only[Act.put,zk,zj,zl];refine jp 10 (some 43) (.pointer (some ⟨cb,0,none⟩)) w7 (by kernel_rfl) rfl rfl (by rfl) rfl hT7 ?_;simp only[Act.put,zk,zj,zl];refine jp 11 (some 44) (.pointer (some ⟨cb,2,none⟩)) w7 (by kernel_rfl) rfl rfl (by rfl) rfl hT7 ?_;simp only[Act.put,zk,zj,zl];have q7:=cb7h.cell 2;have f7:=cb7h.free 2;refine jA 12 none (w7.setCell ⟨cb,2,none⟩ (.slice A7 (c.parts.length+1) C7)) (by kernel_rfl) rfl rfl (by rfl) (by unfold execOp;go_simp) (by kernel_rfl) ?_;simp only[Act.put];have bx8:=(bx7.other (p:=⟨cb,2,none⟩) (by show w.heap.size≠cb;have:=h.has.lt;omega) (.slice A7 (c.parts.length+1) C7)).cell 0;have bl8:=(bx7.other (p:=⟨cb,2,none⟩) (by show w.heap.size≠cb;have:=h.has.lt;omega) (.slice A7 (c.parts.length+1) C7)).lt;have cb8:=G7.has.cell 2;have lc8:=G7.has.lt;have hfi:=hfew;generalize w7.setCell ⟨cb,2,none⟩ (.slice A7 (c.parts.length+1) C7)=W8 at G7 S7 bx8 bl8 cb8 lc8 ⊢
 obtain⟨L,hL⟩:∃L,L=c.parts.length:=⟨_,rfl⟩
 have HL:Hid (L=c.parts.length):=hL;simp only[List.getElem?_toArray,List.getElem?_cons_zero,List.getElem?_cons_succ,←hL]at bx8 cb8;rw[←hL]at hfi;clear hL
 go_wp2
 go_ret
 refine⟨by rw[←HL.out];rfl,_,G7.at ?_ ?_,hS05.trans ((je.of hb5).trans S7)⟩
 ·rw[Qe,HOB.out]
 ·simp;omega
theorem UB{w:World}{cb:Nat}{V:CV}{c:Ck}(h:zM E w cb V c)(p:Pt)(Ak:Option Addr)(Ck:Nat)(A2:Option Addr)(C2:Nat)(A3:Option Addr)(C3:Nat)(hu:Qk w (λg=>¬V.own cb g∧E g) p (.slice Ak p.kids.length Ck,.slice A2 p.key.length C2,.slice A3 p.root.length C3))(hkids:∀k ∈ p.kids,k<c.parts.length)(hkl:p.kids.length≤1000)(hk8:p.kind=8)(hfew:c.parts.length≤90000):
 Calls Tryz.prog 84 #[.pointer (some ⟨cb,0,none⟩),.agg #[.int .i64 (p.kind:Nat),.int .i64 (p.size:Nat),.slice Ak p.kids.length Ck,.int .i64 (p.dev:Nat),.int .i64 (p.first:Nat),.int .i64 (p.chunk:Nat),.slice A2 p.key.length C2,.slice A3 p.root.length C3]] w (DY E w cb V c p):=by
 obtain⟨W2,hW2⟩:∃W2,W2=(w.alloc (.cells #[.pointer (some ⟨cb,0,none⟩)] 64)).alloc (.cells #[.int .i64 (p.kind:Nat),.int .i64 (p.size:Nat),.slice Ak p.kids.length Ck,.int .i64 (p.dev:Nat),.int .i64 (p.first:Nat),.int .i64 (p.chunk:Nat),.slice A2 p.key.length C2,.slice A3 p.root.length C3] 47):=⟨_,rfl⟩
 have hb2:Below w.heap.size w W2:=by rw[hW2];exact qv w _ _
 have bx2:ze W2 w.heap.size 64 #[.pointer (some ⟨cb,0,none⟩)]:=by rw[hW2];exact(ze.new w _ _).alloc _
 have px2:ze W2 (w.heap.size+1) 47 #[.int .i64 (p.kind:Nat),.int .i64 (p.size:Nat),.slice Ak p.kids.length Ck,.int .i64 (p.dev:Nat),.int .i64 (p.first:Nat),.int .i64 (p.chunk:Nat),.slice A2 p.key.length C2,.slice A3 p.root.length C3]:=by rw[hW2];exact ze.new_at (by simp)
 have h2:zM E W2 cb V c:=h.keep hb2;have hbxn:¬V.own cb w.heap.size:=λe=>by have:=(h.low e).2;omega
 have hpxn:¬V.own cb (w.heap.size+1):=λe=>by have:=(h.low e).2;omega
 obtain⟨Ak',Ck',ek,hkc,hkm,hki⟩:=hu.kids;cases ek;have hK8:(((p.kind:Nat):Int)==8)=true:=by rw[beq_iff_eq];omega
 have hK5:(((p.kind:Nat):Int)==5)=false:=by rw[beq_eq_false_iff_ne];omega
 have hob:Zt (qg c.parts) p=(true):=by
  unfold Zt;rw[hk8];rfl
 have hany:=U4 116 #[.pointer (some ⟨w.heap.size,0,none⟩)] Ak p.kids.length Ck p.kids (λk=>(qg c.parts).getD k false) W2 (enters_of Tryz.func116 (by kernel_rfl) rfl) rfl (by omega) _ (hki.keep (Q:=λ_=>True) hb2.size (λk hk hn=>⟨hb2.block k hk,trivial⟩)) (λi hi W hW=>uj (h2.keep hW) w.heap.size p.kids[i] (hkids _ (List.getElem_mem hi)) (za hW (bx2.cell 0)))
 obtain⟨B,hB⟩:∃B,p.kids.any (λk=>(qg c.parts).getD k false)=B:=⟨_,rfl⟩
 rw[hB]at hany;have HOB:Hid (Zt (qg c.parts) p=true):=hob;have HW:Hid (W2=(w.alloc (.cells #[.pointer (some ⟨cb,0,none⟩)] 64)).alloc (.cells #[.int .i64 (p.kind:Nat),.int .i64 (p.size:Nat),.slice Ak p.kids.length Ck,.int .i64 (p.dev:Nat),.int .i64 (p.first:Nat),.int .i64 (p.chunk:Nat),.slice A2 p.key.length C2,.slice A3 p.root.length C3] 47)):=hW2;rw[hW2]at hany;clear hob hB hW2 hk8;have G2:=h2.g;go_enter Tryz.func84,Tryz.ntmps84
 go_wp2_with (first
  |((go_at_call 115)
    refine hany.mono ?_;rintro e w3 ⟨rfl,hb3⟩;(rw[←HW.out]at hb3)))
 have G3:=G2.keep hb3;have bx3h:=bx2.below hb3 bx2.lt;have px3h:=px2.below hb3 px2.lt;have bx3:=bx3h.cell 0;have px3:=px3h.cell 0;have cb6:=G3.has.cell 6;refine vu (S:=λwz=>wz.cell? ⟨w.heap.size,0,none⟩=some (.pointer (some ⟨cb,0,none⟩))∧wz.cell? ⟨cb,6,none⟩=some V.vb∧wz.cell? ⟨w.heap.size+1,0,none⟩=some (.int .i64 (p.kind:Nat))) 15 (by kernel_rfl) (⟨bx3,cb6,px3⟩) (λhHeld=>?_);refine vK 0 (some 18) (.pointer (some ⟨cb,0,none⟩)) rfl rfl (λwz hz=>by obtain⟨z0,z1,z2⟩:=hz;unfold execOp;go_simp) hHeld ?_;simp only[Act.put,zk,zj,zl];refine vK 1 (some 19) (.pointer (some ⟨cb,0,none⟩)) rfl rfl (λwz hz=>by obtain⟨z0,z1,z2⟩:=hz;unfold execOp;go_simp) hHeld ?_;simp only[Act.put,zk,zj,zl];refine vI 2 (some 20) (.pointer (some ⟨cb,0,none⟩)) hHeld ?_;simp only[Act.put,zk,zj,zl];refine vI 3 (some 21) (.pointer (some ⟨cb,6,none⟩)) hHeld ?_;simp only[Act.put,zk,zj,zl];refine vK 4 (some 22) (V.vb) rfl rfl (λwz hz=>by obtain⟨z0,z1,z2⟩:=hz;unfold execOp;go_simp) hHeld ?_;simp only[Act.put,zk,zj,zl];refine vI 5 (some 23) (.pointer (some ⟨w.heap.size+1,0,none⟩)) hHeld ?_;simp only[Act.put,zk,zj,zl];refine vK 6 (some 24) (.int .i64 (p.kind:Nat)) rfl rfl (λwz hz=>by obtain⟨z0,z1,z2⟩:=hz;unfold execOp;go_simp) hHeld ?_;simp only[Act.put,zk,zj,zl];refine vK 7 (some 25) (.bool true) rfl rfl (λwz hz=>YO _ rfl (p.kind:Nat) rfl true hK8 wz) hHeld ?_;simp only[Act.put,zk,zj,zl];refine vI 8 (some 26) (.bool true) hHeld ?_;simp only[Act.put,zk,zj,zl];refine Zv 9 (some 27) rfl rfl (by decide) (by kernel_rfl) (by kernel_rfl) (by kernel_rfl) (by kernel_rfl) (λ_ _ _ h=>h) (by rfl) hHeld ?_;simp only[Act.put,zk,zj,zl];refine vK 10 (some 28) (.bool true) rfl rfl (λ_ _=>by kernel_rfl) hHeld ?_;simp only[Act.put,zk,zj,zl]
 have hS2:(w3.drew.alloc (.cells #[.bool true] 4)).cell? ⟨w.heap.size,0,none⟩=some (.pointer (some ⟨cb,0,none⟩))∧(w3.drew.alloc (.cells #[.bool true] 4)).cell? ⟨cb,6,none⟩=some V.vb∧(w3.drew.alloc (.cells #[.bool true] 4)).cell? ⟨w.heap.size+1,0,none⟩=some (.int .i64 (p.kind:Nat)):=⟨za (zd w3.drew _) hHeld.1,za (zd w3.drew _) hHeld.2.1,za (zd w3.drew _) hHeld.2.2⟩
 refine jp 11 (some 29) (.slice (some ⟨w3.heap.size,0,none⟩) 1 1) (w3.drew.alloc (.cells #[.bool true] 4)) (by kernel_rfl) rfl rfl (by rfl) (by kernel_rfl) hS2 ?_;simp only[Act.put,zk,zj,zl];have G3d:=(G3.keep (zu (Below.refl _ w3))).keep (zd w3.drew (.cells #[.bool true] 4));obtain⟨A6,C6,w6,hr6,hrow6,hg6,hw6⟩:=jP Ul (ty:=66) (w3.drew.alloc (.cells #[.bool true] 4)) cb (qg c.parts).length _ _ G3d.only (by have:=G3d.has.lt;omega) (by rw[vD];have:=h.few.1;omega) [.bool true] rfl (by intro u hu;simp at hu;subst hu;rfl) w3.heap.size (ze.new_at rfl);obtain⟨G6,S6⟩:=G3d.putOnly hg6 hrow6 hw6;have bx6:ze w6 (w.heap.size) 64 #[.pointer (some ⟨cb,0,none⟩)]:=zQ ((zq bx3h).alloc _) hg6 (λe=>hbxn (.inr (.inr (.inr (.inl e)))));have px6:ze w6 (w.heap.size+1) 47 #[.int .i64 (p.kind:Nat),.int .i64 (p.size:Nat),.slice Ak p.kids.length Ck,.int .i64 (p.dev:Nat),.int .i64 (p.first:Nat),.int .i64 (p.chunk:Nat),.slice A2 p.key.length C2,.slice A3 p.root.length C3]:=zQ ((zq px3h).alloc _) hg6 (λe=>hpxn (.inr (.inr (.inr (.inl e)))));have cb6h:=zQ G3d.has hg6 (zJ G3d.only G3d.has (by decide))
 have hS6:w6.cell? ⟨w.heap.size,0,none⟩=some (.pointer (some ⟨cb,0,none⟩))∧w6.cell? ⟨cb,6,none⟩=some V.vb∧w6.cell? ⟨w.heap.size+1,0,none⟩=some (.int .i64 (p.kind:Nat)):=⟨bx6.cell 0,cb6h.cell 6,px6.cell 0⟩
 refine jp 12 (some 30) (.slice A6 ((qg c.parts).length+1) C6) w6 (by kernel_rfl) rfl rfl (by rfl) (jO _ _ rfl rfl rfl hr6) hS6 ?_;simp only[Act.put,zk,zj,zl];refine jp 13 (some 31) (.pointer (some ⟨cb,0,none⟩)) w6 (by kernel_rfl) rfl rfl (by rfl) rfl hS6 ?_;simp only[Act.put,zk,zj,zl];refine jp 14 (some 32) (.pointer (some ⟨cb,6,none⟩)) w6 (by kernel_rfl) rfl rfl (by rfl) rfl hS6 ?_;simp only[Act.put,zk,zj,zl];have q6:=cb6h.cell 6;have f6:=cb6h.free 6;refine jA 15 none (w6.setCell ⟨cb,6,none⟩ (.slice A6 ((qg c.parts).length+1) C6)) (by kernel_rfl) rfl rfl (by rfl) (by unfold execOp;go_simp) (by kernel_rfl) ?_;simp only[Act.put];have hS05:je cb V w { V with vb:= .slice A6 ((qg c.parts).length+1) C6 } (w6.setCell ⟨cb,6,none⟩ (.slice A6 ((qg c.parts).length+1) C6)):=(je.of ((hb2.trans (hb3.mono hb2.size)).trans (((zu (Below.refl _ w3)).trans (zd w3.drew _)).mono (show w.heap.size≤w3.heap.size from Nat.le_trans hb2.size hb3.size)))).trans S6;have HU5:=hu.keep hS05.only.size hS05.innerE;have bx5:=bx6.other (p:=⟨cb,6,none⟩) (by show w.heap.size≠cb;have:=h.has.lt;omega) (.slice A6 ((qg c.parts).length+1) C6);have px5:=px6.other (p:=⟨cb,6,none⟩) (by show w.heap.size+1≠cb;have:=h.has.lt;omega) (.slice A6 ((qg c.parts).length+1) C6);have cb52:=G6.has.cell 2;generalize w6.setCell ⟨cb,6,none⟩ (.slice A6 ((qg c.parts).length+1) C6)=W5 at G6 hS05 HU5 bx5 px5 cb52 ⊢;simp only[jg,jd,jf]at cb52;clear hS6 S6 hr6 hrow6 hg6 hw6 hS2 hHeld
 go_wp2
 refine vu (S:=λwz=>ze wz w.heap.size 64 #[.pointer (some ⟨cb,0,none⟩)]∧wz.cell? ⟨w.heap.size,0,none⟩=some (.pointer (some ⟨cb,0,none⟩))∧wz.cell? ⟨cb,2,none⟩=some V.vp∧ze wz (w.heap.size+1) 47 #[.int .i64 (p.kind:Nat),.int .i64 (p.size:Nat),.slice Ak p.kids.length Ck,.int .i64 (p.dev:Nat),.int .i64 (p.first:Nat),.int .i64 (p.chunk:Nat),.slice A2 p.key.length C2,.slice A3 p.root.length C3]) 12 (by kernel_rfl) (⟨bx5,bx5.cell 0,cb52,px5⟩) (λhHeld=>?_);refine vK 0 (some 33) (.pointer (some ⟨cb,0,none⟩)) rfl rfl (λwz hz=>by obtain⟨z9,z0,z1,z2⟩:=hz;unfold execOp;go_simp) hHeld ?_;simp only[Act.put,zk,zj,zl];refine vK 1 (some 34) (.pointer (some ⟨cb,0,none⟩)) rfl rfl (λwz hz=>by obtain⟨z9,z0,z1,z2⟩:=hz;unfold execOp;go_simp) hHeld ?_;simp only[Act.put,zk,zj,zl];refine vI 2 (some 35) (.pointer (some ⟨cb,0,none⟩)) hHeld ?_;simp only[Act.put,zk,zj,zl];refine vI 3 (some 36) (.pointer (some ⟨cb,0,none⟩)) hHeld ?_;simp only[Act.put,zk,zj,zl];refine vI 4 (some 37) (.pointer (some ⟨cb,2,none⟩)) hHeld ?_;simp only[Act.put,zk,zj,zl];refine vK 5 (some 38) (V.vp) rfl rfl (λwz hz=>by obtain⟨z9,z0,z1,z2⟩:=hz;unfold execOp;go_simp) hHeld ?_;simp only[Act.put,zk,zj,zl];refine vK 6 (some 39) (.agg #[.int .i64 (p.kind:Nat),.int .i64 (p.size:Nat),.slice Ak p.kids.length Ck,.int .i64 (p.dev:Nat),.int .i64 (p.first:Nat),.int .i64 (p.chunk:Nat),.slice A2 p.key.length C2,.slice A3 p.root.length C3]) rfl rfl (λwz hz=>qS _ rfl (w.heap.size+1) 0 rfl wz (λj hj=>by rw[Nat.zero_add];exact hz.2.2.2.cell j)) hHeld ?_;simp only[Act.put,zk,zj,zl]
 have hT2:ze (W5.drew.alloc (.cells #[.int .i64 (p.kind:Nat),.int .i64 (p.size:Nat),.slice Ak p.kids.length Ck,.int .i64 (p.dev:Nat),.int .i64 (p.first:Nat),.int .i64 (p.chunk:Nat),.slice A2 p.key.length C2,.slice A3 p.root.length C3] 47)) w.heap.size 64 #[.pointer (some ⟨cb,0,none⟩)]∧(W5.drew.alloc (.cells #[.int .i64 (p.kind:Nat),.int .i64 (p.size:Nat),.slice Ak p.kids.length Ck,.int .i64 (p.dev:Nat),.int .i64 (p.first:Nat),.int .i64 (p.chunk:Nat),.slice A2 p.key.length C2,.slice A3 p.root.length C3] 47)).cell? ⟨w.heap.size,0,none⟩=some (.pointer (some ⟨cb,0,none⟩))∧(W5.drew.alloc (.cells #[.int .i64 (p.kind:Nat),.int .i64 (p.size:Nat),.slice Ak p.kids.length Ck,.int .i64 (p.dev:Nat),.int .i64 (p.first:Nat),.int .i64 (p.chunk:Nat),.slice A2 p.key.length C2,.slice A3 p.root.length C3] 47)).cell? ⟨cb,2,none⟩=some V.vp∧ze (W5.drew.alloc (.cells #[.int .i64 (p.kind:Nat),.int .i64 (p.size:Nat),.slice Ak p.kids.length Ck,.int .i64 (p.dev:Nat),.int .i64 (p.first:Nat),.int .i64 (p.chunk:Nat),.slice A2 p.key.length C2,.slice A3 p.root.length C3] 47)) (w.heap.size+1) 47 #[.int .i64 (p.kind:Nat),.int .i64 (p.size:Nat),.slice Ak p.kids.length Ck,.int .i64 (p.dev:Nat),.int .i64 (p.first:Nat),.int .i64 (p.chunk:Nat),.slice A2 p.key.length C2,.slice A3 p.root.length C3]:=⟨(zq bx5).alloc _,((zq bx5).alloc _).cell 0,za (zd W5.drew _) hHeld.2.2.1,(zq px5).alloc _⟩
 refine jp 7 (some 40) (.slice (some ⟨W5.heap.size,0,none⟩) 1 1) (W5.drew.alloc (.cells #[.int .i64 (p.kind:Nat),.int .i64 (p.size:Nat),.slice Ak p.kids.length Ck,.int .i64 (p.dev:Nat),.int .i64 (p.first:Nat),.int .i64 (p.chunk:Nat),.slice A2 p.key.length C2,.slice A3 p.root.length C3] 47)) (by kernel_rfl) rfl rfl (by rfl) (by kernel_rfl) hT2 ?_;simp only[Act.put,zk,zj,zl];have hb5:Below W5.heap.size W5 (W5.drew.alloc (.cells #[.int .i64 (p.kind:Nat),.int .i64 (p.size:Nat),.slice Ak p.kids.length Ck,.int .i64 (p.dev:Nat),.int .i64 (p.first:Nat),.int .i64 (p.chunk:Nat),.slice A2 p.key.length C2,.slice A3 p.root.length C3] 47)):=(zu (Below.refl _ W5)).trans (zd W5.drew _);have G5d:=G6.keep hb5;obtain⟨us,e1,hpr,hpi⟩:=G5d.prts;obtain⟨A7,C7,w7,hr7,hrow7,hg7,hw7⟩:=jP U9 (ty:=30) (W5.drew.alloc (.cells #[.int .i64 (p.kind:Nat),.int .i64 (p.size:Nat),.slice Ak p.kids.length Ck,.int .i64 (p.dev:Nat),.int .i64 (p.first:Nat),.int .i64 (p.chunk:Nat),.slice A2 p.key.length C2,.slice A3 p.root.length C3] 47)) cb c.parts.length _ _ hpr (by have:=G5d.has.lt;omega) (by omega) #[.int .i64 (p.kind:Nat),.int .i64 (p.size:Nat),.slice Ak p.kids.length Ck,.int .i64 (p.dev:Nat),.int .i64 (p.first:Nat),.int .i64 (p.chunk:Nat),.slice A2 p.key.length C2,.slice A3 p.root.length C3].toList rfl (by intro u hu;simp at hu;rcases hu with rfl|rfl|rfl|rfl|rfl|rfl|rfl|rfl<;>rfl) W5.heap.size (ze.new_at rfl);have hu5:=HU5.keep (Q:=λg=>¬({ V with vb:= .slice A6 ((qg c.parts).length+1) C6 }:CV).own cb g∧E g) hb5.size (λk hk hn=>⟨hb5.block k hk,hn⟩);obtain⟨G7,S7⟩:=G5d.putPart (p:=p) e1 hpr hpi hu5 hg7 hrow7 hw7;have cb7h:=zQ G5d.has hg7 (zJ hpr G5d.has (by decide));have bx7:ze w7 w.heap.size 64 #[.pointer (some ⟨cb,0,none⟩)]:=zQ ((zq bx5).alloc _) hg7 (zJ hpr ((zq bx5).alloc _) (by decide));have px7:ze w7 (w.heap.size+1) 47 #[.int .i64 (p.kind:Nat),.int .i64 (p.size:Nat),.slice Ak p.kids.length Ck,.int .i64 (p.dev:Nat),.int .i64 (p.first:Nat),.int .i64 (p.chunk:Nat),.slice A2 p.key.length C2,.slice A3 p.root.length C3]:=zQ ((zq px5).alloc _) hg7 (λe=>hpxn (.inr (.inr (.inl e))))
 have hT7:ze w7 w.heap.size 64 #[.pointer (some ⟨cb,0,none⟩)]∧w7.cell? ⟨w.heap.size,0,none⟩=some (.pointer (some ⟨cb,0,none⟩))∧w7.cell? ⟨cb,2,none⟩=some V.vp∧ze w7 (w.heap.size+1) 47 #[.int .i64 (p.kind:Nat),.int .i64 (p.size:Nat),.slice Ak p.kids.length Ck,.int .i64 (p.dev:Nat),.int .i64 (p.first:Nat),.int .i64 (p.chunk:Nat),.slice A2 p.key.length C2,.slice A3 p.root.length C3]:=⟨bx7,bx7.cell 0,cb7h.cell 2,px7⟩
 refine jp 8 (some 41) (.slice A7 (c.parts.length+1) C7) w7 (by kernel_rfl) rfl rfl (by rfl) (jO _ _ rfl rfl rfl hr7) hT7 ?_;simp only[Act.put,zk,zj,zl];refine jp 9 (some 42) (.pointer (some ⟨cb,0,none⟩)) w7 (by kernel_rfl) rfl rfl (by rfl) rfl hT7 ?_;simp only[Act.put,zk,zj,zl];refine jp 10 (some 43) (.pointer (some ⟨cb,0,none⟩)) w7 (by kernel_rfl) rfl rfl (by rfl) rfl hT7 ?_;simp only[Act.put,zk,zj,zl];refine jp 11 (some 44) (.pointer (some ⟨cb,2,none⟩)) w7 (by kernel_rfl) rfl rfl (by rfl) rfl hT7 ?_;simp only[Act.put,zk,zj,zl];have q7:=cb7h.cell 2;have f7:=cb7h.free 2;refine jA 12 none (w7.setCell ⟨cb,2,none⟩ (.slice A7 (c.parts.length+1) C7)) (by kernel_rfl) rfl rfl (by rfl) (by unfold execOp;go_simp) (by kernel_rfl) ?_;simp only[Act.put];have bx8:=(bx7.other (p:=⟨cb,2,none⟩) (by show w.heap.size≠cb;have:=h.has.lt;omega) (.slice A7 (c.parts.length+1) C7)).cell 0;have bl8:=(bx7.other (p:=⟨cb,2,none⟩) (by show w.heap.size≠cb;have:=h.has.lt;omega) (.slice A7 (c.parts.length+1) C7)).lt;have cb8:=G7.has.cell 2;have lc8:=G7.has.lt;have hfi:=hfew;generalize w7.setCell ⟨cb,2,none⟩ (.slice A7 (c.parts.length+1) C7)=W8 at G7 S7 bx8 bl8 cb8 lc8 ⊢
 obtain⟨L,hL⟩:∃L,L=c.parts.length:=⟨_,rfl⟩
 have HL:Hid (L=c.parts.length):=hL;simp only[List.getElem?_toArray,List.getElem?_cons_zero,List.getElem?_cons_succ,←hL]at bx8 cb8;rw[←hL]at hfi;clear hL
 go_wp2
 go_ret
 refine⟨by rw[←HL.out];rfl,_,G7.at ?_ ?_,hS05.trans ((je.of hb5).trans S7)⟩
 ·rw[Qe,HOB.out]
 ·simp;omega
theorem YD{w:World}{cb:Nat}{V:CV}{c:Ck}(h:zM E w cb V c)(p:Pt)(Ak:Option Addr)(Ck:Nat)(A2:Option Addr)(C2:Nat)(A3:Option Addr)(C3:Nat)(hu:Qk w (λg=>¬V.own cb g∧E g) p (.slice Ak p.kids.length Ck,.slice A2 p.key.length C2,.slice A3 p.root.length C3))(hkids:∀k ∈ p.kids,k<c.parts.length)(hkl:p.kids.length≤1000)(hk5:p.kind=5)(hk2:p.kids.length=2)(hfew:c.parts.length≤90000):
 Calls Tryz.prog 84 #[.pointer (some ⟨cb,0,none⟩),.agg #[.int .i64 (p.kind:Nat),.int .i64 (p.size:Nat),.slice Ak p.kids.length Ck,.int .i64 (p.dev:Nat),.int .i64 (p.first:Nat),.int .i64 (p.chunk:Nat),.slice A2 p.key.length C2,.slice A3 p.root.length C3]] w (DY E w cb V c p):=by
 obtain⟨W2,hW2⟩:∃W2,W2=(w.alloc (.cells #[.pointer (some ⟨cb,0,none⟩)] 64)).alloc (.cells #[.int .i64 (p.kind:Nat),.int .i64 (p.size:Nat),.slice Ak p.kids.length Ck,.int .i64 (p.dev:Nat),.int .i64 (p.first:Nat),.int .i64 (p.chunk:Nat),.slice A2 p.key.length C2,.slice A3 p.root.length C3] 47):=⟨_,rfl⟩
 have hb2:Below w.heap.size w W2:=by rw[hW2];exact qv w _ _
 have bx2:ze W2 w.heap.size 64 #[.pointer (some ⟨cb,0,none⟩)]:=by rw[hW2];exact(ze.new w _ _).alloc _
 have px2:ze W2 (w.heap.size+1) 47 #[.int .i64 (p.kind:Nat),.int .i64 (p.size:Nat),.slice Ak p.kids.length Ck,.int .i64 (p.dev:Nat),.int .i64 (p.first:Nat),.int .i64 (p.chunk:Nat),.slice A2 p.key.length C2,.slice A3 p.root.length C3]:=by rw[hW2];exact ze.new_at (by simp)
 have h2:zM E W2 cb V c:=h.keep hb2;have hbxn:¬V.own cb w.heap.size:=λe=>by have:=(h.low e).2;omega
 have hpxn:¬V.own cb (w.heap.size+1):=λe=>by have:=(h.low e).2;omega
 obtain⟨Ak',Ck',ek,hkc,hkm,hki⟩:=hu.kids;cases ek;have hK8:(((p.kind:Nat):Int)==8)=false:=by rw[beq_eq_false_iff_ne];omega
 have hK5:(((p.kind:Nat):Int)==5)=true:=by rw[beq_iff_eq];omega
 have hlk:p.kids.length=2:=hk2;obtain⟨b,o,eA,hbl,hPb,hcl⟩:=hki.resolve_left (by intro e;rw[e]at hlk;simp at hlk)
 have hki':Zs W2 (λ_=>True) (some ⟨b,o+1,none⟩) (p.kids.drop 1):= .inr ⟨b,o+1,rfl,Nat.lt_of_lt_of_le hbl hb2.size,trivial,λj hj=>by
  have hj':1+j<p.kids.length:=by simp at hj;omega
  have:=(hb2.cell (p:=⟨b,o+(1+j),none⟩) hbl).trans (hcl (1+j) hj');rw[List.getElem_drop,show o+1+j=o+(1+j) by omega]
  exact this⟩
 subst eA;have hl1:1≤p.kids.length:=by omega
 have hc2:2≤Ck:=by omega
 have hob:Zt (qg c.parts) p=((p.kids.drop 1).any (λk=>(qg c.parts).getD k false)):=by
  unfold Zt;rw[hk5];rfl
 have hany:=U4 116 #[.pointer (some ⟨w.heap.size,0,none⟩)] (some ⟨b,o+1,none⟩) (p.kids.length-1) (Ck-1) (p.kids.drop 1) (λk=>(qg c.parts).getD k false) W2 (enters_of Tryz.func116 (by kernel_rfl) rfl) (by simp) (by omega) _ hki' (λi hi W hW=>uj (h2.keep hW) w.heap.size (p.kids.drop 1)[i] (hkids _ (List.mem_of_mem_drop (List.getElem_mem hi))) (za hW (bx2.cell 0)))
 obtain⟨B,hB⟩:∃B,(p.kids.drop 1).any (λk=>(qg c.parts).getD k false)=B:=⟨_,rfl⟩
 rw[hB]at hany hob;have HOB:Hid (Zt (qg c.parts) p=B):=hob;have HW:Hid (W2=(w.alloc (.cells #[.pointer (some ⟨cb,0,none⟩)] 64)).alloc (.cells #[.int .i64 (p.kind:Nat),.int .i64 (p.size:Nat),.slice (some ⟨b,o,none⟩) p.kids.length Ck,.int .i64 (p.dev:Nat),.int .i64 (p.first:Nat),.int .i64 (p.chunk:Nat),.slice A2 p.key.length C2,.slice A3 p.root.length C3] 47)):=hW2;rw[hW2]at hany;clear hob hB hW2 hk5 hk2 hlk;have G2:=h2.g;go_enter Tryz.func84,Tryz.ntmps84
 go_wp2_with (first
  |((refine zf 14 rfl ?_)
    (refine zb (some 14) _ rfl (by rfl) (JY _ rfl b o p.kids.length Ck rfl (by omega) (by omega) _) ?_))
  |((go_at_call 115)
    refine hany.mono ?_;rintro e w3 ⟨rfl,hb3⟩;(rw[←HW.out]at hb3)))
 have G3:=G2.keep hb3;have bx3h:=bx2.below hb3 bx2.lt;have px3h:=px2.below hb3 px2.lt;have bx3:=bx3h.cell 0;have px3:=px3h.cell 0;have cb6:=G3.has.cell 6;refine vu (S:=λwz=>wz.cell? ⟨w.heap.size,0,none⟩=some (.pointer (some ⟨cb,0,none⟩))∧wz.cell? ⟨cb,6,none⟩=some V.vb∧wz.cell? ⟨w.heap.size+1,0,none⟩=some (.int .i64 (p.kind:Nat))) 15 (by kernel_rfl) (⟨bx3,cb6,px3⟩) (λhHeld=>?_);refine vK 0 (some 18) (.pointer (some ⟨cb,0,none⟩)) rfl rfl (λwz hz=>by obtain⟨z0,z1,z2⟩:=hz;unfold execOp;go_simp) hHeld ?_;simp only[Act.put,zk,zj,zl];refine vK 1 (some 19) (.pointer (some ⟨cb,0,none⟩)) rfl rfl (λwz hz=>by obtain⟨z0,z1,z2⟩:=hz;unfold execOp;go_simp) hHeld ?_;simp only[Act.put,zk,zj,zl];refine vI 2 (some 20) (.pointer (some ⟨cb,0,none⟩)) hHeld ?_;simp only[Act.put,zk,zj,zl];refine vI 3 (some 21) (.pointer (some ⟨cb,6,none⟩)) hHeld ?_;simp only[Act.put,zk,zj,zl];refine vK 4 (some 22) (V.vb) rfl rfl (λwz hz=>by obtain⟨z0,z1,z2⟩:=hz;unfold execOp;go_simp) hHeld ?_;simp only[Act.put,zk,zj,zl];refine vI 5 (some 23) (.pointer (some ⟨w.heap.size+1,0,none⟩)) hHeld ?_;simp only[Act.put,zk,zj,zl];refine vK 6 (some 24) (.int .i64 (p.kind:Nat)) rfl rfl (λwz hz=>by obtain⟨z0,z1,z2⟩:=hz;unfold execOp;go_simp) hHeld ?_;simp only[Act.put,zk,zj,zl];refine vK 7 (some 25) (.bool false) rfl rfl (λwz hz=>YO _ rfl (p.kind:Nat) rfl false hK8 wz) hHeld ?_;simp only[Act.put,zk,zj,zl];refine vI 8 (some 26) (.bool false) hHeld ?_;simp only[Act.put,zk,zj,zl];refine vI 9 (some 27) (.bool B) hHeld ?_;simp only[Act.put,zk,zj,zl];refine vK 10 (some 28) (.bool B) rfl rfl (λ_ _=>by kernel_rfl) hHeld ?_;simp only[Act.put,zk,zj,zl]
 have hS2:(w3.drew.alloc (.cells #[.bool B] 4)).cell? ⟨w.heap.size,0,none⟩=some (.pointer (some ⟨cb,0,none⟩))∧(w3.drew.alloc (.cells #[.bool B] 4)).cell? ⟨cb,6,none⟩=some V.vb∧(w3.drew.alloc (.cells #[.bool B] 4)).cell? ⟨w.heap.size+1,0,none⟩=some (.int .i64 (p.kind:Nat)):=⟨za (zd w3.drew _) hHeld.1,za (zd w3.drew _) hHeld.2.1,za (zd w3.drew _) hHeld.2.2⟩
 refine jp 11 (some 29) (.slice (some ⟨w3.heap.size,0,none⟩) 1 1) (w3.drew.alloc (.cells #[.bool B] 4)) (by kernel_rfl) rfl rfl (by rfl) (by kernel_rfl) hS2 ?_;simp only[Act.put,zk,zj,zl];have G3d:=(G3.keep (zu (Below.refl _ w3))).keep (zd w3.drew (.cells #[.bool B] 4));obtain⟨A6,C6,w6,hr6,hrow6,hg6,hw6⟩:=jP Ul (ty:=66) (w3.drew.alloc (.cells #[.bool B] 4)) cb (qg c.parts).length _ _ G3d.only (by have:=G3d.has.lt;omega) (by rw[vD];have:=h.few.1;omega) [.bool B] rfl (by intro u hu;simp at hu;subst hu;rfl) w3.heap.size (ze.new_at rfl);obtain⟨G6,S6⟩:=G3d.putOnly hg6 hrow6 hw6;have bx6:ze w6 (w.heap.size) 64 #[.pointer (some ⟨cb,0,none⟩)]:=zQ ((zq bx3h).alloc _) hg6 (λe=>hbxn (.inr (.inr (.inr (.inl e)))));have px6:ze w6 (w.heap.size+1) 47 #[.int .i64 (p.kind:Nat),.int .i64 (p.size:Nat),.slice (some ⟨b,o,none⟩) p.kids.length Ck,.int .i64 (p.dev:Nat),.int .i64 (p.first:Nat),.int .i64 (p.chunk:Nat),.slice A2 p.key.length C2,.slice A3 p.root.length C3]:=zQ ((zq px3h).alloc _) hg6 (λe=>hpxn (.inr (.inr (.inr (.inl e)))));have cb6h:=zQ G3d.has hg6 (zJ G3d.only G3d.has (by decide))
 have hS6:w6.cell? ⟨w.heap.size,0,none⟩=some (.pointer (some ⟨cb,0,none⟩))∧w6.cell? ⟨cb,6,none⟩=some V.vb∧w6.cell? ⟨w.heap.size+1,0,none⟩=some (.int .i64 (p.kind:Nat)):=⟨bx6.cell 0,cb6h.cell 6,px6.cell 0⟩
 refine jp 12 (some 30) (.slice A6 ((qg c.parts).length+1) C6) w6 (by kernel_rfl) rfl rfl (by rfl) (jO _ _ rfl rfl rfl hr6) hS6 ?_;simp only[Act.put,zk,zj,zl];refine jp 13 (some 31) (.pointer (some ⟨cb,0,none⟩)) w6 (by kernel_rfl) rfl rfl (by rfl) rfl hS6 ?_;simp only[Act.put,zk,zj,zl];refine jp 14 (some 32) (.pointer (some ⟨cb,6,none⟩)) w6 (by kernel_rfl) rfl rfl (by rfl) rfl hS6 ?_;simp only[Act.put,zk,zj,zl];have q6:=cb6h.cell 6;have f6:=cb6h.free 6;refine jA 15 none (w6.setCell ⟨cb,6,none⟩ (.slice A6 ((qg c.parts).length+1) C6)) (by kernel_rfl) rfl rfl (by rfl) (by unfold execOp;go_simp) (by kernel_rfl) ?_;simp only[Act.put];have hS05:je cb V w { V with vb:= .slice A6 ((qg c.parts).length+1) C6 } (w6.setCell ⟨cb,6,none⟩ (.slice A6 ((qg c.parts).length+1) C6)):=(je.of ((hb2.trans (hb3.mono hb2.size)).trans (((zu (Below.refl _ w3)).trans (zd w3.drew _)).mono (show w.heap.size≤w3.heap.size from Nat.le_trans hb2.size hb3.size)))).trans S6;have HU5:=hu.keep hS05.only.size hS05.innerE;have bx5:=bx6.other (p:=⟨cb,6,none⟩) (by show w.heap.size≠cb;have:=h.has.lt;omega) (.slice A6 ((qg c.parts).length+1) C6);have px5:=px6.other (p:=⟨cb,6,none⟩) (by show w.heap.size+1≠cb;have:=h.has.lt;omega) (.slice A6 ((qg c.parts).length+1) C6);have cb52:=G6.has.cell 2;generalize w6.setCell ⟨cb,6,none⟩ (.slice A6 ((qg c.parts).length+1) C6)=W5 at G6 hS05 HU5 bx5 px5 cb52 ⊢;simp only[jg,jd,jf]at cb52;clear hS6 S6 hr6 hrow6 hg6 hw6 hS2 hHeld
 go_wp2
 refine vu (S:=λwz=>ze wz w.heap.size 64 #[.pointer (some ⟨cb,0,none⟩)]∧wz.cell? ⟨w.heap.size,0,none⟩=some (.pointer (some ⟨cb,0,none⟩))∧wz.cell? ⟨cb,2,none⟩=some V.vp∧ze wz (w.heap.size+1) 47 #[.int .i64 (p.kind:Nat),.int .i64 (p.size:Nat),.slice (some ⟨b,o,none⟩) p.kids.length Ck,.int .i64 (p.dev:Nat),.int .i64 (p.first:Nat),.int .i64 (p.chunk:Nat),.slice A2 p.key.length C2,.slice A3 p.root.length C3]) 12 (by kernel_rfl) (⟨bx5,bx5.cell 0,cb52,px5⟩) (λhHeld=>?_);refine vK 0 (some 33) (.pointer (some ⟨cb,0,none⟩)) rfl rfl (λwz hz=>by obtain⟨z9,z0,z1,z2⟩:=hz;unfold execOp;go_simp) hHeld ?_;simp only[Act.put,zk,zj,zl];refine vK 1 (some 34) (.pointer (some ⟨cb,0,none⟩)) rfl rfl (λwz hz=>by obtain⟨z9,z0,z1,z2⟩:=hz;unfold execOp;go_simp) hHeld ?_;simp only[Act.put,zk,zj,zl];refine vI 2 (some 35) (.pointer (some ⟨cb,0,none⟩)) hHeld ?_;simp only[Act.put,zk,zj,zl];refine vI 3 (some 36) (.pointer (some ⟨cb,0,none⟩)) hHeld ?_;simp only[Act.put,zk,zj,zl];refine vI 4 (some 37) (.pointer (some ⟨cb,2,none⟩)) hHeld ?_;simp only[Act.put,zk,zj,zl];refine vK 5 (some 38) (V.vp) rfl rfl (λwz hz=>by obtain⟨z9,z0,z1,z2⟩:=hz;unfold execOp;go_simp) hHeld ?_;simp only[Act.put,zk,zj,zl];refine vK 6 (some 39) (.agg #[.int .i64 (p.kind:Nat),.int .i64 (p.size:Nat),.slice (some ⟨b,o,none⟩) p.kids.length Ck,.int .i64 (p.dev:Nat),.int .i64 (p.first:Nat),.int .i64 (p.chunk:Nat),.slice A2 p.key.length C2,.slice A3 p.root.length C3]) rfl rfl (λwz hz=>qS _ rfl (w.heap.size+1) 0 rfl wz (λj hj=>by rw[Nat.zero_add];exact hz.2.2.2.cell j)) hHeld ?_;simp only[Act.put,zk,zj,zl]
 have hT2:ze (W5.drew.alloc (.cells #[.int .i64 (p.kind:Nat),.int .i64 (p.size:Nat),.slice (some ⟨b,o,none⟩) p.kids.length Ck,.int .i64 (p.dev:Nat),.int .i64 (p.first:Nat),.int .i64 (p.chunk:Nat),.slice A2 p.key.length C2,.slice A3 p.root.length C3] 47)) w.heap.size 64 #[.pointer (some ⟨cb,0,none⟩)]∧(W5.drew.alloc (.cells #[.int .i64 (p.kind:Nat),.int .i64 (p.size:Nat),.slice (some ⟨b,o,none⟩) p.kids.length Ck,.int .i64 (p.dev:Nat),.int .i64 (p.first:Nat),.int .i64 (p.chunk:Nat),.slice A2 p.key.length C2,.slice A3 p.root.length C3] 47)).cell? ⟨w.heap.size,0,none⟩=some (.pointer (some ⟨cb,0,none⟩))∧(W5.drew.alloc (.cells #[.int .i64 (p.kind:Nat),.int .i64 (p.size:Nat),.slice (some ⟨b,o,none⟩) p.kids.length Ck,.int .i64 (p.dev:Nat),.int .i64 (p.first:Nat),.int .i64 (p.chunk:Nat),.slice A2 p.key.length C2,.slice A3 p.root.length C3] 47)).cell? ⟨cb,2,none⟩=some V.vp∧ze (W5.drew.alloc (.cells #[.int .i64 (p.kind:Nat),.int .i64 (p.size:Nat),.slice (some ⟨b,o,none⟩) p.kids.length Ck,.int .i64 (p.dev:Nat),.int .i64 (p.first:Nat),.int .i64 (p.chunk:Nat),.slice A2 p.key.length C2,.slice A3 p.root.length C3] 47)) (w.heap.size+1) 47 #[.int .i64 (p.kind:Nat),.int .i64 (p.size:Nat),.slice (some ⟨b,o,none⟩) p.kids.length Ck,.int .i64 (p.dev:Nat),.int .i64 (p.first:Nat),.int .i64 (p.chunk:Nat),.slice A2 p.key.length C2,.slice A3 p.root.length C3]:=⟨(zq bx5).alloc _,((zq bx5).alloc _).cell 0,za (zd W5.drew _) hHeld.2.2.1,(zq px5).alloc _⟩
 refine jp 7 (some 40) (.slice (some ⟨W5.heap.size,0,none⟩) 1 1) (W5.drew.alloc (.cells #[.int .i64 (p.kind:Nat),.int .i64 (p.size:Nat),.slice (some ⟨b,o,none⟩) p.kids.length Ck,.int .i64 (p.dev:Nat),.int .i64 (p.first:Nat),.int .i64 (p.chunk:Nat),.slice A2 p.key.length C2,.slice A3 p.root.length C3] 47)) (by kernel_rfl) rfl rfl (by rfl) (by kernel_rfl) hT2 ?_;simp only[Act.put,zk,zj,zl];have hb5:Below W5.heap.size W5 (W5.drew.alloc (.cells #[.int .i64 (p.kind:Nat),.int .i64 (p.size:Nat),.slice (some ⟨b,o,none⟩) p.kids.length Ck,.int .i64 (p.dev:Nat),.int .i64 (p.first:Nat),.int .i64 (p.chunk:Nat),.slice A2 p.key.length C2,.slice A3 p.root.length C3] 47)):=(zu (Below.refl _ W5)).trans (zd W5.drew _);have G5d:=G6.keep hb5;obtain⟨us,e1,hpr,hpi⟩:=G5d.prts;obtain⟨A7,C7,w7,hr7,hrow7,hg7,hw7⟩:=jP U9 (ty:=30) (W5.drew.alloc (.cells #[.int .i64 (p.kind:Nat),.int .i64 (p.size:Nat),.slice (some ⟨b,o,none⟩) p.kids.length Ck,.int .i64 (p.dev:Nat),.int .i64 (p.first:Nat),.int .i64 (p.chunk:Nat),.slice A2 p.key.length C2,.slice A3 p.root.length C3] 47)) cb c.parts.length _ _ hpr (by have:=G5d.has.lt;omega) (by omega) #[.int .i64 (p.kind:Nat),.int .i64 (p.size:Nat),.slice (some ⟨b,o,none⟩) p.kids.length Ck,.int .i64 (p.dev:Nat),.int .i64 (p.first:Nat),.int .i64 (p.chunk:Nat),.slice A2 p.key.length C2,.slice A3 p.root.length C3].toList rfl (by intro u hu;simp at hu;rcases hu with rfl|rfl|rfl|rfl|rfl|rfl|rfl|rfl<;>rfl) W5.heap.size (ze.new_at rfl);have hu5:=HU5.keep (Q:=λg=>¬({ V with vb:= .slice A6 ((qg c.parts).length+1) C6 }:CV).own cb g∧E g) hb5.size (λk hk hn=>⟨hb5.block k hk,hn⟩);obtain⟨G7,S7⟩:=G5d.putPart (p:=p) e1 hpr hpi hu5 hg7 hrow7 hw7;have cb7h:=zQ G5d.has hg7 (zJ hpr G5d.has (by decide));have bx7:ze w7 w.heap.size 64 #[.pointer (some ⟨cb,0,none⟩)]:=zQ ((zq bx5).alloc _) hg7 (zJ hpr ((zq bx5).alloc _) (by decide));have px7:ze w7 (w.heap.size+1) 47 #[.int .i64 (p.kind:Nat),.int .i64 (p.size:Nat),.slice (some ⟨b,o,none⟩) p.kids.length Ck,.int .i64 (p.dev:Nat),.int .i64 (p.first:Nat),.int .i64 (p.chunk:Nat),.slice A2 p.key.length C2,.slice A3 p.root.length C3]:=zQ ((zq px5).alloc _) hg7 (λe=>hpxn (.inr (.inr (.inl e))))
 have hT7:ze w7 w.heap.size 64 #[.pointer (some ⟨cb,0,none⟩)]∧w7.cell? ⟨w.heap.size,0,none⟩=some (.pointer (some ⟨cb,0,none⟩))∧w7.cell? ⟨cb,2,none⟩=some V.vp∧ze w7 (w.heap.size+1) 47 #[.int .i64 (p.kind:Nat),.int .i64 (p.size:Nat),.slice (some ⟨b,o,none⟩) p.kids.length Ck,.int .i64 (p.dev:Nat),.int .i64 (p.first:Nat),.int .i64 (p.chunk:Nat),.slice A2 p.key.length C2,.slice A3 p.root.length C3]:=⟨bx7,bx7.cell 0,cb7h.cell 2,px7⟩
 refine jp 8 (some 41) (.slice A7 (c.parts.length+1) C7) w7 (by kernel_rfl) rfl rfl (by rfl) (jO _ _ rfl rfl rfl hr7) hT7 ?_;simp only[Act.put,zk,zj,zl];refine jp 9 (some 42) (.pointer (some ⟨cb,0,none⟩)) w7 (by kernel_rfl) rfl rfl (by rfl) rfl hT7 ?_;simp only[Act.put,zk,zj,zl];refine jp 10 (some 43) (.pointer (some ⟨cb,0,none⟩)) w7 (by kernel_rfl) rfl rfl (by rfl) rfl hT7 ?_;simp only[Act.put,zk,zj,zl];refine jp 11 (some 44) (.pointer (some ⟨cb,2,none⟩)) w7 (by kernel_rfl) rfl rfl (by rfl) rfl hT7 ?_;simp only[Act.put,zk,zj,zl];have q7:=cb7h.cell 2;have f7:=cb7h.free 2;refine jA 12 none (w7.setCell ⟨cb,2,none⟩ (.slice A7 (c.parts.length+1) C7)) (by kernel_rfl) rfl rfl (by rfl) (by unfold execOp;go_simp) (by kernel_rfl) ?_;simp only[Act.put];have bx8:=(bx7.other (p:=⟨cb,2,none⟩) (by show w.heap.size≠cb;have:=h.has.lt;omega) (.slice A7 (c.parts.length+1) C7)).cell 0;have bl8:=(bx7.other (p:=⟨cb,2,none⟩) (by show w.heap.size≠cb;have:=h.has.lt;omega) (.slice A7 (c.parts.length+1) C7)).lt;have cb8:=G7.has.cell 2;have lc8:=G7.has.lt;have hfi:=hfew;generalize w7.setCell ⟨cb,2,none⟩ (.slice A7 (c.parts.length+1) C7)=W8 at G7 S7 bx8 bl8 cb8 lc8 ⊢
 obtain⟨L,hL⟩:∃L,L=c.parts.length:=⟨_,rfl⟩
 have HL:Hid (L=c.parts.length):=hL;simp only[List.getElem?_toArray,List.getElem?_cons_zero,List.getElem?_cons_succ,←hL]at bx8 cb8;rw[←hL]at hfi;clear hL
 go_wp2
 go_ret
 refine⟨by rw[←HL.out];rfl,_,G7.at ?_ ?_,hS05.trans ((je.of hb5).trans S7)⟩
 ·rw[Qe,HOB.out]
 ·simp;omega
end
section
open Go.ChangeShapes Go.WideShapes Go.ChangeAt Go.RowKit
def yf(l:List Nd)(k:Nat):Nd:=l.getD k (.mk [] [] 0 0 [])
theorem Xf{l:List Nd}{k:Nat}(h:k<l.length):yf l k=l[k]:=by
 unfold yf;rw[List.getD_eq_getElem?_getD,List.getElem?_eq_getElem h];rfl
def Qp(n:Nd)(A:Option Addr)(C:Nat):Value:= .agg #[.string (bs n.op),.string (bs n.s),.int .i64 n.n,.int .i64 n.a,.slice A n.l.length C]
def Vx(w:World)(g p:Nat)(n:Nd)(A:Option Addr)(C:Nat):Prop:=∀j,j<5→w.cell? ⟨g,p+j,none⟩=(zR n (.slice A n.l.length C))[j]?
theorem qQ{o:Oper}{a:Act}(x:Operand)(ho:o.op= .load 24 x)(g p:Nat)(hx:a.eval x= .pointer (some ⟨g,p,none⟩)){n:Nd}{A:Option Addr}{C:Nat}(w:World)(h:Vx w g p n A C):(execOp a.eval o).run Tryz.prog w= .ok (.value (Qp n A C)) w:=by
 have q0:=h 0 (by decide);have q1:=h 1 (by decide);have q2:=h 2 (by decide);have q3:=h 3 (by decide);have q4:=h 4 (by decide);simp only[Nat.add_zero]at q0;simp only[zR]at q0 q1 q2 q3 q4;unfold execOp Qp;simp only[ho,hx];go_simp
theorem qF{o:Oper}{a:Act}(x i:Operand)(ho:o.op= .indexAddr 22 x i)(g off k n cap:Nat)(hx:a.eval x= .slice (some ⟨g,off,none⟩) n cap)(hi:a.eval i= .int .i64 (k:Nat))(hk:k<n)(w:World):(execOp a.eval o).run Tryz.prog w= .ok (.value (.pointer (some ⟨g,off+k*5,none⟩))) w:=by
 unfold execOp;obtain⟨i0,hq,hz0,hz,hz2⟩:=info_parts Tryz.infoNode;simp only[ho,hx,hi];simp[Instr.indexAt,Instr.sureAddr,run_underlying Tryz.underlying22,asIntOf,sizeOf,typeInfo,hq,hz,Addr.add_mid,go_sem];intro h;omega
theorem Vx.grow{w w':World}{g p B:Nat}{n:Nd}{A:Option Addr}{C:Nat}(h:Vx w g p n A C)(hb:Below B w w')(hg:g<B):Vx w' g p n A C:=λj hj=>(hb.cell (p:=⟨g,p+j,none⟩) hg).trans (h j hj)
theorem xQ{w:World}{n:Nd}{A:Option Addr}{C:Nat}(h:jZ w n A C)(hpos:0<n.l.length):∃(g off:Nat) (Au:Nat→Option Addr) (Cu:Nat→Nat),A=some ⟨g,off,none⟩∧g<w.heap.size∧∀k,k<n.l.length→Vx w g (off+k*5) (yf n.l k) (Au k) (Cu k)∧jZ w (yf n.l k) (Au k) (Cu k):=by
 obtain⟨g,off,_,e,hg,_⟩:=h.rd.get 0 hpos
 have each:∀k,∃(Av:Option Addr) (Cv:Nat),k<n.l.length→Vx w g (off+k*5) (yf n.l k) Av Cv∧jZ w (yf n.l k) Av Cv:=by
  intro k;by_cases hk:k<n.l.length
  ·obtain⟨g',off',u,e',hg',hc,hr,hs,ho⟩:=h.rd.get k hk
   rw[e]at e';cases e';obtain⟨Av,Cv,rfl,_,_⟩:=hr.slice;refine⟨Av,Cv,λ_=>?_⟩;rw[Xf hk];exact⟨hc,hr,hs,ho⟩
  ·exact⟨none,0,λh=>absurd h hk⟩
 exact⟨g,off,λk=>(each k).choose,λk=>(each k).choose_spec.choose,e,hg,λk hk=>(each k).choose_spec.choose_spec hk⟩
end
section
open Go.ChangeShapes Go.WideShapes Go.ChangeAt Go.RowKit Go.MapKept
variable {E:Nat→Prop}
def uz(ps:List Pt):Ck:=⟨[],none,ps,none,false,0,[]⟩
def va:List Nd→Nat
 | []=>0
 |x::l=>(if x.op=zc∨x.op=zg then 1 else 0)+va l
theorem Uy(l:List Nd)(x:Nd):∀d,qo d (l++ [x])=qo d l++(if x.op=zc then[⟨1,x.n.toNat,[],d+va l,0,0,[],[]⟩]else[]):=by
 induction l with
 |nil =>
  intro d;simp only[List.nil_append,qo,va];by_cases h1:x.op=zc
  ·rw[if_pos h1,if_pos h1];rfl
  ·rw[if_neg h1,if_neg h1]
   by_cases h2:x.op=zg
   ·rw[if_pos h2]
   ·rw[if_neg h2]
 |cons y l ih =>
  intro d;simp only[List.cons_append,qo,va];by_cases h1:y.op=zc
  ·simp only[if_pos h1,ih,List.cons_append,if_pos (show y.op=zc∨y.op=zg from .inl h1)]
   congr 2
   rw[show d+1+va l=d+(1+va l) by omega]
  ·rw[if_neg h1,if_neg h1]
   by_cases h2:y.op=zg
   ·rw[if_pos h2,if_pos h2,ih,if_pos (show y.op=zc∨y.op=zg from .inr h2)]
    rw[show d+1+va l=d+(1+va l) by omega]
   ·rw[if_neg h2,if_neg h2,ih,if_neg (show ¬(y.op=zc∨y.op=zg) by simp[h1,h2])]
    rw[Nat.zero_add]
theorem GD(l:List Nd)(x:Nd):va (l++ [x])=va l+(if x.op=zc∨x.op=zg then 1 else 0):=by
 induction l with
 |nil=>simp[va]
 |cons y l ih=>simp only[List.cons_append,va,ih];omega
theorem df(l:List Nd):va l≤l.length:=by
 induction l with
 |nil=>exact Nat.le_refl _
 |cons y l ih=>simp only[va,List.length_cons];split<;>omega
theorem Dj(l:List Nd):∀d,(qo d l).length≤l.length:=by
 induction l with
 |nil=>intro d;exact Nat.le_refl _
 |cons y l ih =>
  intro d;simp only[qo]
  split
  ·simp;exact ih _
  ·split
   ·have:=ih (d+1);simp;omega
   ·have:=ih d;simp;omega
structure YX (w0 w:World) (l:List Nd) (A:Option Addr) (C:Nat):Prop where
 rd:Rd w0 l (.slice A l.length C)
 bel:Below w0.heap.size w0 w
theorem YX.get{w0 w:World}{l:List Nd}{A:Option Addr}{C:Nat}(h:YX w0 w l A C){i:Nat}(hi:i<l.length):∃g off An Cn,A=some ⟨g,off,none⟩∧g<w.heap.size∧Vx w g (off+i*5) l[i] An Cn∧jZ w0 l[i] An Cn:=by
 obtain⟨g,off,u,e,hg,hc,hr,hs,ho⟩:=h.rd.get i hi;obtain⟨An,Cn,rfl,_,_⟩:=hr.slice;exact⟨g,off,An,Cn,e,Nat.lt_of_lt_of_le hg h.bel.size,λj hj=>(h.bel.cell (p:=⟨g,off+i*5+j,none⟩) hg).trans (hc j hj),hr,hs,ho⟩
theorem je.below{cb:Nat}{V V':CV}{w w':World}{c:Ck}(h:zM E w cb V c)(s:je cb V w V' w'):Below (cb-1) w w':=s.only.below (by have:=h.has.lt;omega) λk hk=>by have:=(h.low hk).1;omega
theorem dN{w0 w:World}{cb:Nat}{V:CV}{l:List Nd}{A:Option Addr}{C:Nat}(h:zM E w cb V (uz []))(ht:YX w0 w l A C)(hcb:w0.heap.size≤cb-1)(hl:l.length≤80000)(hn:∀x ∈ l,(x.op=zc→0≤x.n∧x.n≤999999999)):Calls Tryz.prog 51 #[.pointer (some ⟨cb,0,none⟩),.slice A l.length C] w λe w'=>e= .returned (.tuple #[])∧∃V',zM E w' cb V' (uz (qo 0 l))∧je cb V w V' w':=by
 obtain⟨A',C',eAC,hlc,hcm⟩:=ht.rd.slice;cases eAC
 obtain⟨L,hL⟩:∃L,L=l.length:=⟨_,rfl⟩
 have HL:Hid (L=l.length):=hL;rw[←hL]at hlc hl ⊢;clear hL;go_enter Tryz.func51,Tryz.ntmps51
 go_wp2
 go_loopw [4,9] (λz4 z9 wr=>∃(i:Nat) (V':CV),z4= .int .i64 (va (l.take i):Nat)∧z9= .int .i64 (i:Nat)∧i≤L∧zM E wr cb V' (uz (qo 0 (l.take i)))∧je cb V w V' wr) (λ_ z _=>L-(intOf z).toNat)
 case atStart=>exact⟨0,V,by simp[va],rfl,Nat.zero_le _,by simpa [qo]using h,je.refl _ _ _⟩
 case round =>
  obtain⟨i,V2,rfl,rfl,hi,H2,S2⟩:=hrel;by_cases hlt:i<L
  ·have hil:i<l.length:=by rw[←HL.out];exact hlt
   have B2:=S2.below h
   have T2:YX w0 wr l A C:=⟨ht.rd,ht.bel.trans (B2.mono hcb)⟩
   obtain⟨g,off,An,Cn,eA,hg,hat,hrn⟩:=T2.get hil;have hnl:=hn _ (List.getElem_mem hil)
   have HD:Hid (qo 0 (l.take (i+1))=qo 0 (l.take i)++(if l[i].op=zc then[⟨1,l[i].n.toNat,[],va (l.take i),0,0,[],[]⟩]else[])):=by
    rw[List.take_succ_eq_append_getElem hil,Uy,Nat.zero_add];exact rfl
   have HV:Hid (va (l.take (i+1))=va (l.take i)+(if l[i].op=zc∨l[i].op=zg then 1 else 0)):=by
    rw[List.take_succ_eq_append_getElem hil,GD];exact rfl
   have hdl:=df (l.take i);have hpl:=Dj (l.take i) 0;have hil2:(l.take i).length≤i:=by simp;omega
   generalize l[i]=n at *
   obtain⟨D,hD⟩:∃D,D=va (l.take i):=⟨_,rfl⟩
   obtain⟨ps,hps⟩:∃ps,ps=qo 0 (l.take i):=⟨_,rfl⟩
   rw[←hD]at HD HV hdl ⊢;rw[←hps]at HD H2 hpl;have hDb:(D:Int)≤80000:=by omega
   have hpsl:ps.length≤80000:=by omega
   have hint:(i:Int)<(L:Int):=by omega
   have hot:=zx n.op;have H3:=H2.alloc (.cells #[.string (bs n.op),.string (bs n.s),.int .i64 n.n,.int .i64 n.a,.slice An n.l.length Cn] 24);clear hD hps T2 hil;subst eA;by_cases hd:n.op=zc
   ·have f0:(n.op== [100,101,118,105,99,101])=true:=by rw[hd];decide
    have f1:(n.op== [106,111,117,114,110,97,108])=false:=by rw[hd];decide
    have hnn:=hnl hd
    obtain⟨M,hM⟩:∃M:Nat,n.n=(M:Nat):=⟨n.n.toNat,by omega⟩
    have e1:qo 0 (l.take (i+1))=ps++ [⟨1,M,[],D,0,0,[],[]⟩]:=by rw[HD.out,if_pos hd,hM,Int.toNat_natCast]
    have e2:va (l.take (i+1))=D+1:=by rw[HV.out,if_pos (.inl hd)]
    have HE1:Hid (qo 0 (l.take (i+1))=ps++ [⟨1,M,[],D,0,0,[],[]⟩]):=e1;have HE2:Hid (va (l.take (i+1))=D+1):=e2;have hadd:=Yr H3 ⟨1,M,[],D,0,0,[],[]⟩ none 0 none 0 none 0 ⟨⟨none,0,rfl,Nat.le_refl _,by unfold maxLen;omega,.inl rfl⟩,⟨none,0,rfl,Nat.le_refl _,by unfold maxLen;omega,.inl rfl⟩,⟨none,0,rfl,Nat.le_refl _,by unfold maxLen;omega,.inl rfl⟩⟩ (λk hk=>by cases hk) (by simp) (by simp) (by simp) (by show ps.length≤90000;omega);rw[hM]at hadd;simp only[List.length_nil]at hadd;have hat2:Vx wr g (off+i*5) n An Cn:=hat;have hNM:Hid (n.n=(M:Nat)):=hM;clear e1 e2 hd hnl hnn HD HV hM
    go_wp2_with (first
    |((refine zf 11 rfl ?_)
      (refine zb (some 11) _ rfl (by rfl) (qF _ _ rfl g off i L C rfl rfl hlt wr) ?_))
    |((refine zf 12 rfl ?_)
      refine zb (some 12) _ rfl (by rfl) (qQ _ rfl g (off+i*5) rfl wr hat) ?_;(unfold Qp))
    |((go_at_call 84)
      rw[hNM.out];refine hadd.mono ?_;(rintro e w5 ⟨rfl,V5,H5,S5⟩)))
    go_roundw
    case rel=>exact⟨i+1,V5,by rw[HE2.out];go_num,by go_num,by omega,by rw[HE1.out];exact H5,S2.trans ((je.of (zd wr _)).trans S5)⟩
    case measure=>simp[intOf];omega
   ·have f0:(n.op== [100,101,118,105,99,101])=false:=by rw[beq_eq_false_iff_ne];exact hd
    by_cases hj:n.op=zg
    ·have f1:(n.op== [106,111,117,114,110,97,108])=true:=by rw[hj];decide
     have e1:qo 0 (l.take (i+1))=ps:=by rw[HD.out,if_neg hd,List.append_nil]
     have e2:va (l.take (i+1))=D+1:=by rw[HV.out,if_pos (.inr hj)]
     have HE1:Hid (qo 0 (l.take (i+1))=ps):=e1;have HE2:Hid (va (l.take (i+1))=D+1):=e2;clear e1 e2 hd hj hnl HD HV
     go_wp2_with (first
     |((refine zf 11 rfl ?_)
       (refine zb (some 11) _ rfl (by rfl) (qF _ _ rfl g off i L C rfl rfl hlt wr) ?_))
     |((refine zf 12 rfl ?_)
       refine zb (some 12) _ rfl (by rfl) (qQ _ rfl g (off+i*5) rfl wr hat) ?_;(unfold Qp))
      )
     go_roundw
     case rel=>exact⟨i+1,V2,by rw[HE2.out];go_num,by go_num,by omega,by rw[HE1.out];exact H3,S2.trans (je.of (zd wr _))⟩
     case measure=>simp[intOf];omega
    ·have f1:(n.op== [106,111,117,114,110,97,108])=false:=by rw[beq_eq_false_iff_ne];exact hj
     have e1:qo 0 (l.take (i+1))=ps:=by rw[HD.out,if_neg hd,List.append_nil]
     have e2:va (l.take (i+1))=D:=by rw[HV.out,if_neg (by simp[hd,hj])];rfl
     have HE1:Hid (qo 0 (l.take (i+1))=ps):=e1;have HE2:Hid (va (l.take (i+1))=D):=e2;clear e1 e2 hd hj hnl HD HV
     go_wp2_with (first
     |((refine zf 11 rfl ?_)
       (refine zb (some 11) _ rfl (by rfl) (qF _ _ rfl g off i L C rfl rfl hlt wr) ?_))
     |((refine zf 12 rfl ?_)
       refine zb (some 12) _ rfl (by rfl) (qQ _ rfl g (off+i*5) rfl wr hat) ?_;(unfold Qp))
      )
     go_roundw
     case rel=>exact⟨i+1,V2,by rw[HE2.out],by go_num,by omega,by rw[HE1.out];exact H3,S2.trans (je.of (zd wr _))⟩
     case measure=>simp[intOf];omega
  ·obtain rfl:i=L:=by omega
   have e1:l.take i=l:=by rw[HL.out,List.take_length]
   rw[e1]at H2
   go_wp2
   go_end0
   exact⟨rfl,V2,H2,S2⟩
end
section
open Go.ChangeShapes Go.WideShapes Go.ChangeAt Go.RowKit Go.MapKept
variable {E:Nat→Prop}
section
variable {w w6:World} {cb:Nat} {V:CV} {c c':Ck}
theorem zM.kept_set(h:zM E w cb V c)(j:Nat)(v:Value):∀ {k:Nat} {o:Obj},k≠cb→w.heap[k]?=some o→(w.setCell ⟨cb,j,none⟩ v).heap[k]?=some o:=λ{k o} h2 ho=>Zc w _ _ h2 ho
theorem zM.put(h:zM E w cb V c)(j:Nat)(v:Value)(hh:ze (w.setCell ⟨cb,j,none⟩ v) cb 68 #[V.vd,.int .i64 (jI c'.jour),V.vp,.int .i64 (jI c'.expo),.bool c'.ro,.map (some V.mb),V.vb,.int .i64 c'.eat])(e1:c'.devs=c.devs)(e2:c'.parts=c.parts)(e3:c'.names=c.names):
 zM E (w.setCell ⟨cb,j,none⟩ v) cb V c'∧je cb V w V (w.setCell ⟨cb,j,none⟩ v):=by
 have hst:je cb V w V (w.setCell ⟨cb,j,none⟩ v):=⟨(vM.refl _ w).set (.inl (.inl rfl)) _,λk hk=> .inl hk⟩
 obtain⟨us,q1,r1,i1⟩:=h.prts;obtain⟨ms,q2,r2,i2⟩:=h.nms;have hin:=hst.innerE (E:=E);have hsz:=hst.only.size;refine⟨⟨hh,?_,?_,?_,?_,by rw[e3];exact h.uniq,h.mlt,by rw[e1,e2,e3];exact h.few⟩,hst⟩
 ·rw[e1]
  exact zI h.devs (λg o e ho=>h.kept_set j v (by rintro rfl;exact zJ h.devs h.has (by decide) e) ho)
 ·rw[e2]
  exact zI h.only (λg o e ho=>h.kept_set j v (by rintro rfl;exact zJ h.only h.has (by decide) e) ho)
 ·rw[e2]
  exact⟨us,q1,zI r1 (λg o e ho=>h.kept_set j v (by rintro rfl;exact zJ r1 h.has (by decide) e) ho),λi a b=>(i1 i a b).keep hsz hin⟩
 ·rw[e3]
  exact⟨ms,q2,h.kept_set j v (by intro e;have hh:w.heap[cb]?=some (.cells _ _ (0,0)):=h.has;rw[e]at r2;rw[r2]at hh;cases hh) r2,λi a b=>(i2 i a b).keep hsz hin⟩
theorem zM.putDev(h:zM E w cb V c){A6:Option Addr}{C6 d:Nat}(hg:w.grownBy w6 V.vd.ownBlock)(hr:w6.ownsRow cb 3 1 (.slice A6 (c.devs.length+1) C6) (c.devs.length+1) ((c.devs.map λd=> .int .i64 (d:Nat))++ [.int .i64 (d:Nat)]))(hw:(Value.slice A6 (c.devs.length+1) C6).ownBlock=V.vd.ownBlock∨(Value.slice A6 (c.devs.length+1) C6).ownBlock=some w.heap.size)(hl:c.devs.length≤90000):
 zM E (w6.setCell ⟨cb,0,none⟩ (.slice A6 (c.devs.length+1) C6)) cb { V with vd:= .slice A6 (c.devs.length+1) C6 } { c with devs:=c.devs++ [d] }∧je cb V w { V with vd:= .slice A6 (c.devs.length+1) C6 } (w6.setCell ⟨cb,0,none⟩ (.slice A6 (c.devs.length+1) C6)):=by
 obtain⟨us,e1,hp,hpi⟩:=h.prts;obtain⟨ms,e2,hm,hmi⟩:=h.nms
 have hst:je cb V w { V with vd:= .slice A6 (c.devs.length+1) C6 } (w6.setCell ⟨cb,0,none⟩ (.slice A6 (c.devs.length+1) C6)):=by
  refine⟨(⟨hg.os,hg.tape,hg.output,hg.size,λk hk hn=>hg.block k hk (λe=>hn (.inr (.inl e.symm)))⟩:vM (V.own cb) w w6).set (.inl (.inl rfl)) _,λk hk=>?_⟩;rcases hk with e|e|e|e|e
  ·exact .inl (.inl e)
  ·rcases hw with q|q
   ·exact .inl (.inr (.inl (q ▸ e)))
   ·rw[show(Value.slice A6 (c.devs.length+1) C6).ownBlock=some w.heap.size from q]at e
    cases e;exact .inr (Nat.le_refl _)
  ·exact .inl (.inr (.inr (.inl e)))
  ·exact .inl (.inr (.inr (.inr (.inl e))))
  ·exact .inl (.inr (.inr (.inr (.inr e))))
 have hcb:V.vd.ownBlock≠some cb:=zJ h.devs h.has (by decide);have kept:∀ {k:Nat} {o:Obj},V.vd.ownBlock≠some k→k≠cb→w.heap[k]?=some o→(w6.setCell ⟨cb,0,none⟩ (.slice A6 (c.devs.length+1) C6)).heap[k]?=some o:=λ{k o} h1 h2 ho=>Zc w6 _ _ h2 ((hg.block k (Array.getElem?_eq_some_iff.1 ho).1 (λe=>h1 e.symm)).trans ho)
 have hin:=hst.innerE (E:=E);have hsz:=hst.only.size;refine⟨⟨(zQ h.has hg hcb).putP 0 _,?_,zI h.only (λg o e ho=>kept (yI h.devs h.only (by decide) e) (by rintro rfl;exact zJ h.only h.has (by decide) e) ho),⟨us,e1,zI hp (λg o e ho=>kept (yI h.devs hp (by decide) e) (by rintro rfl;exact zJ hp h.has (by decide) e) ho),λi a b=>(hpi i a b).keep hsz hin⟩,⟨ms,e2,kept (yH h.devs hm) (by rintro e;have hh:w.heap[cb]?=some (.cells _ _ (0,0)):=h.has;rw[show V.mb=cb from e]at hm;rw[hm]at hh;cases hh) hm,λi a b=>(hmi i a b).keep hsz hin⟩,h.uniq,h.mlt,h.few.1,h.few.2.1,by simp;omega⟩,hst⟩;rw[List.length_append,List.length_singleton,List.map_append,List.map_cons,List.map_nil]
 refine zI hr (λg o e ho=>Zc w6 _ _ (by
  show g≠cb;rintro rfl;rcases hw with q|q
  ·exact hcb (q ▸ e)
  ·rw[q]at e
   cases e
   exact absurd h.has.lt (Nat.lt_irrefl _)) ho)
def vY(w:World)(b:Nat)(o:Obj):World:={ w with heap:=w.heap.setIfInBounds b o }
theorem YB(w:World){b k:Nat}(o:Obj)(h:k≠b):(vY w b o).heap[k]?=w.heap[k]?:=by simp[vY,Ne.symm h]
theorem Gs(w:World){b:Nat}(o:Obj)(h:b<w.heap.size):(vY w b o).heap[b]?=some o:=by simp[vY,h]
theorem uo(w:World)(b:Nat)(o:Obj){F:Nat→Prop}(h:F b):vM F w (vY w b o):=⟨rfl,rfl,rfl,by simp[vY],λk hk hn=>YB w o (by rintro rfl;exact hn h)⟩
theorem zM.putName(h:zM E w cb V c){us:List Value}(e2:us.length=c.names.length)(hm:w.heap[V.mb]?=some (.map (jm c.names us).toArray c.names.length))(hmi:∀i (h:i<c.names.length) (h':i<us.length),XA w (λg=>¬V.own cb g∧E g) c.names[i].2 us[i])(s:List UInt8)(m:Mn)(u:Value)(hn:∀x ∈ c.names,x.1≠s)(hu:XA w (λg=>¬V.own cb g∧E g) m u)(hl:c.names.length≤90000):
 zM E (vY w V.mb (.map (jm (c.names++ [(s,m)]) (us++ [u])).toArray (c.names.length+1))) cb V { c with names:=c.names++ [(s,m)] }∧je cb V w V (vY w V.mb (.map (jm (c.names++ [(s,m)]) (us++ [u])).toArray (c.names.length+1))):=by
 generalize hO:(Obj.map (jm (c.names++ [(s,m)]) (us++ [u])).toArray (c.names.length+1))=O
 have hst:je cb V w V (vY w V.mb O):=⟨uo w V.mb O (.inr (.inr (.inr (.inr rfl)))),λk hk=> .inl hk⟩
 obtain⟨vs,e1,hp,hpi⟩:=h.prts;have hin:=hst.innerE (E:=E);have hsz:=hst.only.size;have hlt:V.mb<w.heap.size:=(Array.getElem?_eq_some_iff.1 hm).1;have kept:∀ {k:Nat} {o:Obj},k≠V.mb→w.heap[k]?=some o→(vY w V.mb O).heap[k]?=some o:=λ{k o} h2 ho=>(YB w O h2).trans ho
 have hcb:cb≠V.mb:=by
  intro e;have hh:w.heap[cb]?=some (.cells _ _ (0,0)):=h.has;rw[e,hm]at hh;cases hh
 refine⟨⟨kept hcb h.has,zI h.devs (λg o e ho=>kept (by rintro rfl;exact yH h.devs hm e) ho),zI h.only (λg o e ho=>kept (by rintro rfl;exact yH h.only hm e) ho),⟨vs,e1,zI hp (λg o e ho=>kept (by rintro rfl;exact yH hp hm e) ho),λi a b=>(hpi i a b).keep hsz hin⟩,⟨us++ [u],by simp[e2],?_,?_⟩,?_,h.mlt,h.few.1,by simp;omega,h.few.2.2⟩,hst⟩
 ·show(vY w V.mb O).heap[V.mb]?=_
  rw[Gs w O hlt,←hO];simp
 ·intro i a b
  by_cases hi:i<c.names.length
  ·simp only[List.getElem_append_left hi,List.getElem_append_left (show i<us.length by omega)]
   exact(hmi i hi (by omega)).keep hsz hin
  ·have :i=c.names.length:=by simp at a;omega
   subst this;have q1:(c.names++ [(s,m)])[c.names.length]'a=(s,m):=by rw[List.getElem_append_right (Nat.le_refl _)];simp
   have q2:(us++ [u])[c.names.length]'b=u:=by rw[List.getElem_append_right (by omega)];simp[e2]
   simp only[q1,q2];exact hu.keep hsz hin
 ·exact List.pairwise_append.2 ⟨h.uniq,List.pairwise_singleton _ _,λa ha b hb=>by rw[List.mem_singleton.1 hb];exact hn a ha⟩
end
theorem kS{o:Oper}{a:Act}(x y z:Operand)(ho:o.op= .mapUpdate 65 x y z){w:World}{mb:Nat}{ns:xv}{us:List Value}(hb:w.heap[mb]?=some (.map (jm ns us).toArray ns.length))(h:us.length=ns.length)(hu:ns.Pairwise (λx y=>x.1≠y.1))(s:List UInt8)(m:Mn)(u:Value)(hn:lk ns s=none)(hx:a.eval x= .map (some mb))(hy:a.eval y= .string (bs s))(hz:a.eval z=X7 m u):(execOp a.eval o).run Tryz.prog w= .ok .skip (vY w mb (.map (jm (ns++ [(s,m)]) (us++ [u])).toArray (ns.length+1))):=by
 have hk:IsKey .string (.string (bs s)):=trivial;unfold execOp;simp only[ho,hx,hy,hz];rw[←gg h s m u];rcases VZ h hu s with⟨g1,g2⟩|⟨i,hi,g1,g2,g3⟩
 ·have hr:=MapKept.run_findKey (P:=Tryz.prog) (w:=w) Tryz.underlying9 g1
  simp[Instr.mapUpdate,run_underlying Tryz.underlying65,MapKept.run_getObj_map hb,MapKept.run_checkKey Tryz.underlying9 hk,hr,MapKept.run_setObj_map _ hb,Result.andThen];rfl
 ·rw[hn]at g2;cases g2
end
section
open Go.Shelf
def Tryz.laysSlK4_ren:Go.Shelf.Ren:=⟨λ |4=>193|n=>n,λ |22=>45|4=>4|5=>5|n=>n,λ |n=>n⟩
theorem Tryz.laysSlK4:Go.Proofs.SlLaysK.n4 Tryz.prog Tryz.laysSlK4_ren:={
 mixed:=by kernel_rfl
 f4:=Tryz.func193.trans (congrArg some (by kernel_rfl))
 t4:=Tryz.underlying4
 a4:=Tryz.isAgg4
 z4:=Tryz.sizeOf4
 v4:=Tryz.zeroValue4
 t22:=Tryz.underlying45
 a22:=Tryz.isAgg45
 z22:=Tryz.sizeOf45
 v22:=Tryz.zeroValue45
 t5:=Tryz.underlying5
 i5:=by kernel_rfl }
open Go.RowKit Go.Lib in
theorem Tryz.bytes_Clone_at(a:Addr)(n c:Nat)(xs:List Int)(w:World)(hx:xs.length=n)(hbig:n≤140737488355328)(hc:∀i,i<n→w.cell? (a.add i)=some (.int .u8 (xs.getD i 0))):
 Calls Tryz.prog 193 #[.slice (some a) n c] w λe w'=>∃v',e= .returned v'∧w'.ownsRow w.heap.size 5 1 v' n (xs.map (Value.int .u8))∧v'≠ .slice none 0 0∧Below w.heap.size w w':=Any.bytes_Clone_at Tryz.laysSlK4 a n c xs w hx hbig hc
open Go.RowKit Go.Lib in
theorem Tryz.bytes_Clone_nil(n c:Nat)(w:World):
 Calls Tryz.prog 193 #[.slice none n c] w λe w'=>e= .returned (.slice none 0 0)∧w'=w:=Any.bytes_Clone_nil Tryz.laysSlK4 n c w
def Tryz.laysnb115_ren:Go.Shelf.Ren:=⟨λ |115=>184|n=>n,λ |37=>45|4=>4|9=>9|5=>5|n=>n,λ |n=>n⟩
theorem Tryz.laysnb115:Go.Proofs.Lays.nb115 Tryz.prog Tryz.laysnb115_ren:={
 mixed:=by kernel_rfl
 f115:=Tryz.func184.trans (congrArg some (by kernel_rfl))
 t4:=Tryz.underlying4
 a4:=Tryz.isAgg4
 z4:=Tryz.sizeOf4
 v4:=Tryz.zeroValue4
 t9:=Tryz.underlying9
 a9:=Tryz.isAgg9
 z9:=Tryz.sizeOf9
 v9:=Tryz.zeroValue9
 t37:=Tryz.underlying45
 a37:=Tryz.isAgg45
 z37:=Tryz.sizeOf45
 v37:=Tryz.zeroValue45
 t5:=Tryz.underlying5
 a5:=Tryz.isAgg5
 z5:=Tryz.sizeOf5
 v5:=Tryz.zeroValue5 }
theorem Tryz.bytes_Equal_all(p1 p2:Option Addr)(n c m d:Nat)(xs ys:List Int)(w:World)(hx:xs.length=n)(hy:ys.length=m)(h1:Lib.BytesIn w p1 n xs)(h2:Lib.BytesIn w p2 m ys):
 Calls Tryz.prog 184 #[.slice p1 n c,.slice p2 m d] w λe w'=>e= .returned (.bool (Lib.bytesOf xs==Lib.bytesOf ys))∧w'=w:=Any.bytes_Equal_all Tryz.laysnb115 p1 p2 n c m d xs ys w hx hy h1 h2
end
section
open Go.ChangeShapes Go.WideShapes Go.ChangeAt Go.RowKit Go.MapKept
variable {E:Nat→Prop}
def zai(w w':World)(v:Value)(l:List UInt8):Prop:=∃A C,v= .slice A l.length C∧l.length≤C∧C≤maxLen∧yc w' (λg=>w.heap.size≤g) A l
theorem dq{w:World}{P:Nat→Prop}{A:Option Addr}{C:Nat}{l:List UInt8}(h:yc w P A l)(hl:l.length≤1000):Calls Tryz.prog 193 #[.slice A l.length C] w λe w'=>∃v,e= .returned v∧zai w w' v l∧Below w.heap.size w w':=by
 cases A with
 |none =>
  have he:l= []:=by
   rcases h with h|⟨b,off,e,_⟩
   ·exact h
   ·cases e
  subst he;refine(Tryz.bytes_Clone_nil 0 C w).mono ?_;rintro e w' ⟨rfl,rfl⟩;exact⟨_,rfl,⟨none,0,rfl,Nat.le_refl _,by unfold maxLen;omega,.inl rfl⟩,Below.refl _ _⟩
 |some a =>
  refine(Tryz.bytes_Clone_at a l.length C (l.map λb=>((b.toNat:Nat):Int)) w (by simp) (by omega) (λi hi=>?_)).mono ?_
  ·rcases h with h|⟨b,off,e,hb,_,hc⟩
   ·rw[h]at hi;simp at hi
   ·cases e
    have:=hc i hi;rw[show(⟨b,off,none⟩:Addr).add i=⟨b,off+i,none⟩ by simp[Addr.add],this];simp[List.getD_eq_getElem?_getD,hi]
  ·rintro e w' ⟨v',rfl,hr,hne,hb⟩
   refine⟨v',rfl,?_,hb⟩;rcases hr.2 with⟨e,h0⟩|⟨g,cap,cur,rfl,hg,hh,hn,hm,hs,ht⟩
   ·exact absurd e hne
   ·refine⟨_,cap,rfl,hn,hm,?_⟩
    by_cases hl0:l= []
    ·exact .inl hl0
    ·refine .inr ⟨g,0,rfl,(Array.getElem?_eq_some_iff.1 hh).1,hg,λj hj=>?_⟩
     rw[Nat.zero_add,cell_of_row w' g j cur _ _ hh,←Array.getElem?_toList];have e1:(cur.toList.take (l.length*1))[j]?=cur.toList[j]?:=List.getElem?_take_of_lt (by omega);rw[←e1,ht];simp[hj]
def zbE(w:World)(R:Except Er Mn)(e:Ending)(w':World):Prop:=Below w.heap.size w w'∧match R with
 | .error (c,k)=>e= .panicked (YE c k)
 | .ok m=>∃v,e= .returned v∧zai w w' v m.bytes
theorem JT{w:World}{cb:Nat}{V:CV}{c:Ck}(h:zM E w cb V c)(n:Nd)(A:Option Addr)(C:Nat)(hr:jZ w n A C)(hl:2≤n.l.length)(wd:List UInt8)(hby:∀x ∈ c.names,x.2.bytes.length≤1000):Calls Tryz.prog 183 #[.pointer (some ⟨cb,0,none⟩),.agg (zR n (.slice A n.l.length C)),.string (bs wd)] w (zbE w (jj c.names (yf n.l 1) [wd])):=by
 obtain⟨g,off,Au,Cu,rfl,hg,hat⟩:=xQ hr (by omega);obtain⟨hat1,_⟩:=hat 1 (by omega);have hlen:=hr.len
 obtain⟨L,hL⟩:∃L,L=n.l.length:=⟨_,rfl⟩
 rw[←hL]at hl hlen ⊢;generalize yf n.l 1=m1 at hat1 ⊢
 obtain⟨W1,hW1⟩:∃W1,W1=(w.alloc (.cells #[.string (bs n.op),.string (bs n.s),.int .i64 n.n,.int .i64 n.a,.slice (some ⟨g,off,none⟩) L C] 24)).alloc (.cells #[.string (bs wd)] 9):=⟨_,rfl⟩
 have hb1:Below w.heap.size w W1:=by rw[hW1];exact qv w _ _
 have hkn:=Xs (h.keep hb1) m1 (Au 1) m1.l.length (Cu 1) [wd] (.slice (some ⟨w.heap.size+1,0,none⟩) 1 1) (.inr ⟨w.heap.size+1,rfl,by rw[hW1];exact ze.new_at (by simp)⟩) (by simp);have hat2:Vx (w.alloc (.cells #[.string (bs n.op),.string (bs n.s),.int .i64 n.n,.int .i64 n.a,.slice (some ⟨g,off,none⟩) L C] 24)) g (off+1*5) m1 (Au 1) (Cu 1):=hat1.grow (zd w _) hg;rw[hW1]at hkn;have HW:Hid (W1=(w.alloc (.cells #[.string (bs n.op),.string (bs n.s),.int .i64 n.n,.int .i64 n.a,.slice (some ⟨g,off,none⟩) L C] 24)).alloc (.cells #[.string (bs wd)] 9)):=hW1;clear hW1 hL;have hmem:=λm (e:jj c.names m1 [wd]= .ok m)=>hby _ (ZW e).1
 have hli:(1:Int)<(L:Int):=by omega
 have hCm:L≤C∧C≤9223372036854775807:=hlen;cases hK:jj c.names m1 [wd]with
 |error er =>
  obtain⟨ec,ek⟩:=er;rw[hK]at hkn;clear hK hmem hlen hr h;unfold zR at hkn ⊢;go_enter Tryz.func183,Tryz.ntmps183
  go_wp2_with (first
   |((refine zf 11 rfl ?_)
     refine zb (some 11) _ rfl (by rfl) (qQ _ rfl g (off+1*5) rfl _ hat2) ?_;(unfold Qp))
   |((go_at_call 117)
     refine hkn.mono ?_;(rintro e w2 ⟨hb2,rfl⟩)))
  rw[←HW.out]at hb2;exact⟨rfl,hb1.trans (hb2.mono hb1.size),rfl⟩
 |ok m =>
  have hml:=hmem m hK;rw[hK]at hkn;clear hK hmem hlen hr h;unfold zR at hkn ⊢;go_enter Tryz.func183,Tryz.ntmps183
  go_wp2_with (first
   |((refine zf 11 rfl ?_)
     refine zb (some 11) _ rfl (by rfl) (qQ _ rfl g (off+1*5) rfl _ hat2) ?_;(unfold Qp))
   |((go_at_call 117)
     refine hkn.mono ?_;rintro e w2 ⟨hb2,Am,Cm,rfl,hm1,hm2,hbp⟩;(unfold X7))
   |((refine zf 15 rfl ?_)
     (refine zb (some 15) (.slice Am m.bytes.length Cm) rfl (by rfl) (by kernel_rfl) ?_))
   |((go_at_call 193)
     refine(dq hbp hml).mono ?_;(rintro e w3 ⟨v3,rfl,hN,hb3⟩)))
  go_ret
  rw[←HW.out]at hb2;have hb02:Below w.heap.size w w2:=hb1.trans (hb2.mono hb1.size);refine⟨hb02.trans (hb3.mono hb02.size),v3,rfl,?_⟩;obtain⟨A',C',e1,e2,e3,e4⟩:=hN;exact⟨A',C',e1,e2,e3,e4.keep (Nat.le_refl _) (λk hk hB=>⟨rfl,Nat.le_trans hb02.size hB⟩)⟩
end
section
open Go.ChangeShapes Go.WideShapes Go.ChangeAt Go.RowKit Go.MapKept
variable {E:Nat→Prop}
def xB(w:World)(R:Except Er Pt)(e:Ending)(w':World):Prop:=Below w.heap.size w w'∧match R with
 | .error (c,k)=>e= .panicked (YE c k)
 | .ok p=>∃u,e= .returned (.agg (uW p u))∧Qk w' (λg=>w.heap.size≤g) p u
theorem yq{fn:Func}{R:Ending→World→Prop}{a:Act}{W:World}{s g:Nat}{x0 x1 x2 x3 x4 x5 x6 x7:Value}(hr:fn.results= #[.cell s 47])(hs:a.tmps[s]?.getD undef= .pointer (some ⟨g,0,none⟩))(hH:ze W g 47 #[x0,x1,x2,x3,x4,x5,x6,x7])(hd:a.defers= [])(h:R (.returned (.agg #[x0,x1,x2,x3,x4,x5,x6,x7])) W):bodyPost Tryz.prog fn R .ret a W:=by
 have q0:=hH.cell 0;have q1:=hH.cell 1;have q2:=hH.cell 2;have q3:=hH.cell 3;have q4:=hH.cell 4;have q5:=hH.cell 5;have q6:=hH.cell 6;have q7:=hH.cell 7;exact bodyPost_ret (by simp only[results,hr];simp[hs,go_sem,q0,q1,q2,q3,q4,q5,q6,q7]) hd h
abbrev VG(W:World)(g:Nat)(x0 x1 x2 x3 x4 x5 x6 x7:Value):World:=(((((((W.setCell ⟨g,0,none⟩ x0).setCell ⟨g,1,none⟩ x1).setCell ⟨g,2,none⟩ x2).setCell ⟨g,3,none⟩ x3).setCell ⟨g,4,none⟩ x4).setCell ⟨g,5,none⟩ x5).setCell ⟨g,6,none⟩ x6).setCell ⟨g,7,none⟩ x7
theorem ze.set8{w:World}{g t:Nat}{a0 a1 a2 a3 a4 a5 a6 a7:Value}(h:ze w g t #[a0,a1,a2,a3,a4,a5,a6,a7])(x0 x1 x2 x3 x4 x5 x6 x7:Value):ze (VG w g x0 x1 x2 x3 x4 x5 x6 x7) g t #[x0,x1,x2,x3,x4,x5,x6,x7]:=by
 have h0:ze _ g t #[x0,a1,a2,a3,a4,a5,a6,a7]:=h.putP 0 x0;have h1:ze _ g t #[x0,x1,a2,a3,a4,a5,a6,a7]:=h0.putP 1 x1;have h2:ze _ g t #[x0,x1,x2,a3,a4,a5,a6,a7]:=h1.putP 2 x2;have h3:ze _ g t #[x0,x1,x2,x3,a4,a5,a6,a7]:=h2.putP 3 x3;have h4:ze _ g t #[x0,x1,x2,x3,x4,a5,a6,a7]:=h3.putP 4 x4;have h5:ze _ g t #[x0,x1,x2,x3,x4,x5,a6,a7]:=h4.putP 5 x5;have h6:ze _ g t #[x0,x1,x2,x3,x4,x5,x6,a7]:=h5.putP 6 x6;have h7:ze _ g t #[x0,x1,x2,x3,x4,x5,x6,x7]:=h6.putP 7 x7;exact h7
theorem kN{w W:World}{B g:Nat}(h:Below B w W)(hg:B≤g)(x0 x1 x2 x3 x4 x5 x6 x7:Value):Below B w (VG W g x0 x1 x2 x3 x4 x5 x6 x7):=(((((((h.setCell (p:=⟨g,0,none⟩) hg x0).setCell (p:=⟨g,1,none⟩) hg x1).setCell (p:=⟨g,2,none⟩) hg x2).setCell (p:=⟨g,3,none⟩) hg x3).setCell (p:=⟨g,4,none⟩) hg x4).setCell (p:=⟨g,5,none⟩) hg x5).setCell (p:=⟨g,6,none⟩) hg x6).setCell (p:=⟨g,7,none⟩) hg x7
theorem K6{w:World}{cb:Nat}{V:CV}{c:Ck}(h:zM E w cb V c)(n:Nd)(A:Option Addr)(C:Nat)(hr:jZ w n A C)(hl:2≤n.l.length)(ho:n.op=qH)(size:Nat)(hsz:size≤8192)(hby:∀x ∈ c.names,x.2.bytes.length≤1000):Calls Tryz.prog 163 #[.pointer (some ⟨cb,0,none⟩),.agg (zR n (.slice A n.l.length C)),.int .i64 (size:Nat)] w (xB w (qN c.names n size [])):=by
 have hcs:qN c.names n size []=match jj c.names (yf n.l 1) [zT]with | .error e=> .error e| .ok m=>if dI size=0 then .error (134,n.a)else .ok ⟨7,dI size,[],0,0,0,m.bytes,[]⟩:=by
  unfold qN;rw[if_neg (by rw[ho];decide),if_pos ho];rfl
 rw[hcs];have f0:(n.op== [99,114,121,112,116])=false:=by rw[ho];decide
 have f1:(n.op== [105,110,116,101,103,114,105,116,121])=true:=by rw[ho];decide
 have hot:=zx n.op
 obtain⟨W2,hW2⟩:∃W2,W2=(w.alloc (.cells #[.string (bs n.op),.string (bs n.s),.int .i64 n.n,.int .i64 n.a,.slice A n.l.length C] 24)).alloc (.cells #[.int .i64 0,.int .i64 0,.slice none 0 0,.int .i64 0,.int .i64 0,.int .i64 0,.slice none 0 0,.slice none 0 0] 47):=⟨_,rfl⟩
 have hb2:Below w.heap.size w W2:=by rw[hW2];exact qv w _ _
 have P2:ze W2 (w.heap.size+1) 47 #[.int .i64 0,.int .i64 0,.slice none 0 0,.int .i64 0,.int .i64 0,.int .i64 0,.slice none 0 0,.slice none 0 0]:=by rw[hW2];exact ze.new_at (by simp)
 have N2:ze W2 w.heap.size 24 #[.string (bs n.op),.string (bs n.s),.int .i64 n.n,.int .i64 n.a,.slice A n.l.length C]:=by rw[hW2];exact(ze.new w _ _).alloc _
 have hsec:=JT (h.keep hb2) n A C (hr.grow hb2) hl zT hby;rw[show bs zT=⟨#[107,101,121]⟩from rfl]at hsec;have hdat:=λW=>K2 size W hsz
 rw[hW2]at hsec;have HW:Hid (W2=(w.alloc (.cells #[.string (bs n.op),.string (bs n.s),.int .i64 n.n,.int .i64 n.a,.slice A n.l.length C] 24)).alloc (.cells #[.int .i64 0,.int .i64 0,.slice none 0 0,.int .i64 0,.int .i64 0,.int .i64 0,.slice none 0 0,.slice none 0 0] 47)):=hW2;clear hW2 hcs h hr hl ho;generalize n.l.length=L at *;cases hK:jj c.names (yf n.l 1) [zT]with
 |error er =>
  obtain⟨ec,ek⟩:=er;rw[hK]at hsec;clear hK;unfold zR at hsec ⊢;go_enter Tryz.func163,Tryz.ntmps163
  go_wp2_with (first
   |((go_at_call 183)
     refine hsec.mono ?_;(rintro e w3 ⟨hb3,rfl⟩)))
  rw[←HW.out]at hb3;exact⟨rfl,hb2.trans (hb3.mono hb2.size),rfl⟩
 |ok m =>
  have hml:=hby _ (ZW hK).1;rw[hK]at hsec;clear hK
  have HD:Hid (∀r,yp 8192 (VE tg size) r→r=dI size):=(λr hr=>hr.eq (VA _ _):∀r,yp 8192 (VE tg size) r→r=dI size)
  generalize dI size=D at HD ⊢;unfold zR at hsec ⊢;by_cases hD0:D=0
  ·subst hD0
   simp only[if_true];go_enter Tryz.func163,Tryz.ntmps163
   go_wp2_with (first
    |((go_at_call 183)
      refine hsec.mono ?_;rintro e w3 ⟨hb3,v3,rfl,hN⟩;rw[←HW.out]at hb3;have N3:=N2.below hb3 N2.lt;have nc3:=N3.cell 3;(have ln3:=N3.lt))
    |((go_at_call 185)
      refine(hdat _).mono ?_;rintro e w4 ⟨r,rfl,hgr,hb4⟩;obtain rfl:r=0:=HD.out r hgr;(have nc4:=za hb4 nc3))
    |((go_at_call 86)
      refine(qO 134 n.a _).mono ?_;(rintro e w5 ⟨rfl,rfl⟩)))
   exact⟨rfl,(hb2.trans (hb3.mono hb2.size)).trans (hb4.mono (Nat.le_trans hb2.size hb3.size)),rfl⟩
  ·simp only[if_neg hD0]
   have hDn:decide (0<D)=true:=decide_eq_true (by omega);clear hD0;go_enter Tryz.func163,Tryz.ntmps163
   go_wp2_with (first
    |((go_at_call 183)
      refine hsec.mono ?_;rintro e w3 ⟨hb3,v3,rfl,Ab,Cb,rfl,e2,e3,hBy⟩;rw[←HW.out]at hb3 hBy;have N3:=N2.below hb3 N2.lt;have nc3:=N3.cell 3;(have ln3:=N3.lt))
    |((go_at_call 185)
      refine(hdat _).mono ?_;rintro e w4 ⟨r,rfl,hgr,hb4⟩;obtain rfl:D=r:=(HD.out r hgr).symm;have nc4:=za hb4 nc3;have P3:=(P2.below hb3 P2.lt).below hb4 (P2.below hb3 P2.lt).lt;have lp3:=P3.lt;have a0:=P3.cell 0;have b0:=P3.free 0;have a1:=P3.cell 1;have b1:=P3.free 1;have a2:=P3.cell 2;have b2:=P3.free 2;have a3:=P3.cell 3;have b3:=P3.free 3;have a4:=P3.cell 4;have b4:=P3.free 4;have a5:=P3.cell 5;have b5:=P3.free 5;have a6:=P3.cell 6;have b6:=P3.free 6;have a7:=P3.cell 7;(have b7:=P3.free 7))
    |((go_at_call 86)
      refine(qa 134 n.a _).mono ?_;rintro e w5 ⟨rfl,hw5⟩;(obtain rfl:w4=w5:=hw5.symm)))
   have hb04:Below w.heap.size w w4:=(hb2.trans (hb3.mono hb2.size)).trans (hb4.mono (Nat.le_trans hb2.size hb3.size));have hbf:=kN (g:=w.heap.size+1) hb04 (Nat.le_succ _) (.int .i64 7) (.int .i64 (D:Nat)) (.slice none 0 0) (.int .i64 0) (.int .i64 0) (.int .i64 0) (.slice Ab m.bytes.length Cb) (.slice none 0 0);refine yq rfl rfl (P3.set8 _ _ _ _ _ _ _ _) rfl ⟨hbf,(.slice none 0 0,.slice Ab m.bytes.length Cb,.slice none 0 0),rfl,?_⟩
   have KB:yc (VG w4 (w.heap.size+1) (.int .i64 7) (.int .i64 (D:Nat)) (.slice none 0 0) (.int .i64 0) (.int .i64 0) (.int .i64 0) (.slice Ab m.bytes.length Cb) (.slice none 0 0)) (λg=>w.heap.size≤g) Ab m.bytes:=hBy.keep (by simpa using hb4.size) (λk hk hB=>⟨by
    have hk2:k≠w.heap.size+1:=by have:=P2.lt;omega
    unfold VG
    iterate 8 rw[Below.heap_setCell _ _ _ k hk2]
    exact hb4.block k hk,Nat.le_trans hb2.size hB⟩)
   exact⟨⟨none,0,rfl,Nat.le_refl _,by unfold maxLen;omega,.inl rfl⟩,⟨Ab,Cb,rfl,e2,e3,KB⟩,⟨none,0,rfl,Nat.le_refl _,by unfold maxLen;omega,.inl rfl⟩⟩
theorem fT{w:World}{cb:Nat}{V:CV}{c:Ck}(h:zM E w cb V c)(n:Nd)(A:Option Addr)(C:Nat)(hr:jZ w n A C)(hl:2≤n.l.length)(ho:n.op=jV)(size:Nat)(hsz:size≤8192)(hby:∀x ∈ c.names,x.2.bytes.length≤1000):Calls Tryz.prog 163 #[.pointer (some ⟨cb,0,none⟩),.agg (zR n (.slice A n.l.length C)),.int .i64 (size:Nat)] w (xB w (qN c.names n size [])):=by
 have hcs:qN c.names n size []=match jj c.names (yf n.l 1) [zD]with | .error e=> .error e| .ok m=>if dV size=0 then .error (134,n.a)else .ok ⟨8,dV size,[],0,0,0,[],m.bytes⟩:=by
  unfold qN;rw[if_neg (by rw[ho];decide),if_neg (by rw[ho];decide)];rfl
 rw[hcs];have f0:(n.op== [99,114,121,112,116])=false:=by rw[ho];decide
 have f1:(n.op== [105,110,116,101,103,114,105,116,121])=false:=by rw[ho];decide
 have hot:=zx n.op
 obtain⟨W2,hW2⟩:∃W2,W2=(w.alloc (.cells #[.string (bs n.op),.string (bs n.s),.int .i64 n.n,.int .i64 n.a,.slice A n.l.length C] 24)).alloc (.cells #[.int .i64 0,.int .i64 0,.slice none 0 0,.int .i64 0,.int .i64 0,.int .i64 0,.slice none 0 0,.slice none 0 0] 47):=⟨_,rfl⟩
 have hb2:Below w.heap.size w W2:=by rw[hW2];exact qv w _ _
 have P2:ze W2 (w.heap.size+1) 47 #[.int .i64 0,.int .i64 0,.slice none 0 0,.int .i64 0,.int .i64 0,.int .i64 0,.slice none 0 0,.slice none 0 0]:=by rw[hW2];exact ze.new_at (by simp)
 have N2:ze W2 w.heap.size 24 #[.string (bs n.op),.string (bs n.s),.int .i64 n.n,.int .i64 n.a,.slice A n.l.length C]:=by rw[hW2];exact(ze.new w _ _).alloc _
 have hsec:=JT (h.keep hb2) n A C (hr.grow hb2) hl zD hby;rw[show bs zD=⟨#[114,111,111,116]⟩from rfl]at hsec;have hdat:=λW=>FZ size W hsz
 rw[hW2]at hsec;have HW:Hid (W2=(w.alloc (.cells #[.string (bs n.op),.string (bs n.s),.int .i64 n.n,.int .i64 n.a,.slice A n.l.length C] 24)).alloc (.cells #[.int .i64 0,.int .i64 0,.slice none 0 0,.int .i64 0,.int .i64 0,.int .i64 0,.slice none 0 0,.slice none 0 0] 47)):=hW2;clear hW2 hcs h hr hl ho;generalize n.l.length=L at *;cases hK:jj c.names (yf n.l 1) [zD]with
 |error er =>
  obtain⟨ec,ek⟩:=er;rw[hK]at hsec;clear hK;unfold zR at hsec ⊢;go_enter Tryz.func163,Tryz.ntmps163
  go_wp2_with (first
   |((go_at_call 183)
     refine hsec.mono ?_;(rintro e w3 ⟨hb3,rfl⟩)))
  rw[←HW.out]at hb3;exact⟨rfl,hb2.trans (hb3.mono hb2.size),rfl⟩
 |ok m =>
  have hml:=hby _ (ZW hK).1;rw[hK]at hsec;clear hK
  have HD:Hid (∀r,yp 2048 (VE hs size) r→r=dV size):=(λr hr=>hr.eq (VA _ _):∀r,yp 2048 (VE hs size) r→r=dV size)
  generalize dV size=D at HD ⊢;unfold zR at hsec ⊢;by_cases hD0:D=0
  ·subst hD0
   simp only[if_true];go_enter Tryz.func163,Tryz.ntmps163
   go_wp2_with (first
    |((go_at_call 183)
      refine hsec.mono ?_;rintro e w3 ⟨hb3,v3,rfl,hN⟩;rw[←HW.out]at hb3;have N3:=N2.below hb3 N2.lt;have nc3:=N3.cell 3;(have ln3:=N3.lt))
    |((go_at_call 186)
      refine(hdat _).mono ?_;rintro e w4 ⟨r,rfl,hgr,hb4⟩;obtain rfl:r=0:=HD.out r hgr;(have nc4:=za hb4 nc3))
    |((go_at_call 86)
      refine(qO 134 n.a _).mono ?_;(rintro e w5 ⟨rfl,rfl⟩)))
   exact⟨rfl,(hb2.trans (hb3.mono hb2.size)).trans (hb4.mono (Nat.le_trans hb2.size hb3.size)),rfl⟩
  ·simp only[if_neg hD0]
   have hDn:decide (0<D)=true:=decide_eq_true (by omega);clear hD0;go_enter Tryz.func163,Tryz.ntmps163
   go_wp2_with (first
    |((go_at_call 183)
      refine hsec.mono ?_;rintro e w3 ⟨hb3,v3,rfl,Ab,Cb,rfl,e2,e3,hBy⟩;rw[←HW.out]at hb3 hBy;have N3:=N2.below hb3 N2.lt;have nc3:=N3.cell 3;(have ln3:=N3.lt))
    |((go_at_call 186)
      refine(hdat _).mono ?_;rintro e w4 ⟨r,rfl,hgr,hb4⟩;obtain rfl:D=r:=(HD.out r hgr).symm;have nc4:=za hb4 nc3;have P3:=(P2.below hb3 P2.lt).below hb4 (P2.below hb3 P2.lt).lt;have lp3:=P3.lt;have a0:=P3.cell 0;have b0:=P3.free 0;have a1:=P3.cell 1;have b1:=P3.free 1;have a2:=P3.cell 2;have b2:=P3.free 2;have a3:=P3.cell 3;have b3:=P3.free 3;have a4:=P3.cell 4;have b4:=P3.free 4;have a5:=P3.cell 5;have b5:=P3.free 5;have a6:=P3.cell 6;have b6:=P3.free 6;have a7:=P3.cell 7;(have b7:=P3.free 7))
    |((go_at_call 86)
      refine(qa 134 n.a _).mono ?_;rintro e w5 ⟨rfl,hw5⟩;(obtain rfl:w4=w5:=hw5.symm)))
   have hb04:Below w.heap.size w w4:=(hb2.trans (hb3.mono hb2.size)).trans (hb4.mono (Nat.le_trans hb2.size hb3.size));have hbf:=kN (g:=w.heap.size+1) hb04 (Nat.le_succ _) (.int .i64 8) (.int .i64 (D:Nat)) (.slice none 0 0) (.int .i64 0) (.int .i64 0) (.int .i64 0) (.slice none 0 0) (.slice Ab m.bytes.length Cb);refine yq rfl rfl (P3.set8 _ _ _ _ _ _ _ _) rfl ⟨hbf,(.slice none 0 0,.slice none 0 0,.slice Ab m.bytes.length Cb),rfl,?_⟩
   have KB:yc (VG w4 (w.heap.size+1) (.int .i64 8) (.int .i64 (D:Nat)) (.slice none 0 0) (.int .i64 0) (.int .i64 0) (.int .i64 0) (.slice none 0 0) (.slice Ab m.bytes.length Cb)) (λg=>w.heap.size≤g) Ab m.bytes:=hBy.keep (by simpa using hb4.size) (λk hk hB=>⟨by
    have hk2:k≠w.heap.size+1:=by have:=P2.lt;omega
    unfold VG
    iterate 8 rw[Below.heap_setCell _ _ _ k hk2]
    exact hb4.block k hk,Nat.le_trans hb2.size hB⟩)
   exact⟨⟨none,0,rfl,Nat.le_refl _,by unfold maxLen;omega,.inl rfl⟩,⟨none,0,rfl,Nat.le_refl _,by unfold maxLen;omega,.inl rfl⟩,⟨Ab,Cb,rfl,e2,e3,KB⟩⟩
end
section
open Go.ChangeShapes Go.WideShapes Go.ChangeAt Go.RowKit Go.MapKept
variable {E:Nat→Prop}
theorem Qo{w:World}{base e size n:Nat}{v:Value}{xs:List Value}(h:w.ownsRow base e size v n xs)(hn:0<n):∃g C,v= .slice (some ⟨g,0,none⟩) n C∧n≤C∧C≤maxLen∧g<w.heap.size∧base≤g∧∀j,j<n*size→w.cell? ⟨g,j,none⟩=xs[j]?:=by
 rcases h.2 with⟨_,h0⟩|⟨g,cap,cur,rfl,hg,hh,hn',hm,hs,ht⟩
 ·omega
 ·refine⟨g,cap,rfl,hn',hm,(Array.getElem?_eq_some_iff.1 hh).1,hg,λj hj=>?_⟩
  rw[cell_of_row w g j cur _ _ hh,←Array.getElem?_toList,←ht];exact(List.getElem?_take_of_lt hj).symm
theorem JH(l:List Pt):∀(us:List (Value×Value×Value)) (h:us.length=l.length) (k:Nat) (hk:k<l.length) (j:Nat),j<8→(F7 l us)[k*8+j]?=(uW l[k] (us[k]'(by omega)))[j]?:=by
 induction l with
 |nil=>intro us h k hk;simp at hk
 |cons p l ih =>
  intro us h k hk j hj;cases us with
  |nil=>simp at h
  |cons u us =>
   have h':us.length=l.length:=by simpa using h
   have e:F7 (p::l) (u::us)=(uW p u).toList++F7 l us:=rfl;rw[e];have h8:(uW p u).toList.length=8:=rfl;cases k with
   |zero =>
    rw[Nat.zero_mul,Nat.zero_add,List.getElem?_append_left (by rw[h8];exact hj)];rw[Array.getElem?_toList];rfl
   |succ k =>
    rw[List.getElem?_append_right (by rw[h8];omega),h8,show(k+1)*8+j-8=k*8+j by omega];exact ih us h' k (by simpa using hk) j hj
theorem Fu(ps:List Pt){k:Nat}(hk:k<ps.length):sz ps k=ps[k].size:=by
 unfold sz zK;rw[List.getD_eq_getElem?_getD,List.getElem?_eq_getElem hk];rfl
def Du(w:World)(g off:Nat)(ps:List Pt):Prop:=∀k,k<ps.length→w.cell? ⟨g,off+k*8+1,none⟩=some (.int .i64 (sz ps k:Nat))
theorem zM.vp{w:World}{cb:Nat}{V:CV}{c:Ck}(h:zM E w cb V c)(hn:0<c.parts.length):∃g off C,V.vp= .slice (some ⟨g,off,none⟩) c.parts.length C∧c.parts.length≤C∧C≤maxLen∧g<w.heap.size∧Du w g off c.parts:=by
 obtain⟨us,e1,hp,_⟩:=h.prts;obtain⟨g,C,e,h1,h2,h3,_,h4⟩:=Qo hp hn;refine⟨g,0,C,e,h1,h2,h3,λk hk=>?_⟩;rw[show 0+k*8+1=k*8+1 by omega,h4 (k*8+1) (by omega),JH _ us e1 k hk 1 (by decide),Fu _ hk];rfl
def D5(w:World)(g off:Nat)(os:List Bool):Prop:=∀k,k<os.length→w.cell? ⟨g,off+k,none⟩=some (.bool (os.getD k false))
theorem zM.vo{w:World}{cb:Nat}{V:CV}{c:Ck}(h:zM E w cb V c)(hn:0<c.parts.length):∃g off C,V.vb= .slice (some ⟨g,off,none⟩) c.parts.length C∧c.parts.length≤C∧C≤maxLen∧g<w.heap.size∧D5 w g off (qg c.parts):=by
 obtain⟨g,C,e,h1,h2,h3,_,h4⟩:=Qo h.only hn;refine⟨g,0,C,e,h1,h2,h3,λk hk=>?_⟩;have hl:k<c.parts.length:=by rw[vD]at hk;exact hk
 rw[Nat.zero_add,h4 k (by omega),List.getElem?_map,List.getElem?_eq_getElem hk,List.getD_eq_getElem?_getD,List.getElem?_eq_getElem hk];rfl
theorem Du.below{w w':World}{B g off:Nat}{ps:List Pt}(h:Du w g off ps)(hb:Below B w w')(hg:g<B):Du w' g off ps:=λk hk=>(hb.cell (p:=⟨g,off+k*8+1,none⟩) hg).trans (h k hk)
theorem D5.below{w w':World}{B g off:Nat}{os:List Bool}(h:D5 w g off os)(hb:Below B w w')(hg:g<B):D5 w' g off os:=λk hk=>(hb.cell (p:=⟨g,off+k,none⟩) hg).trans (h k hk)
theorem jw{o:Oper}{a:Act}(x i:Operand)(ho:o.op= .indexAddr 29 x i)(g off k n cap:Nat)(hx:a.eval x= .slice (some ⟨g,off,none⟩) n cap)(hi:a.eval i= .int .i64 (k:Nat))(hk:k<n)(w:World):(execOp a.eval o).run Tryz.prog w= .ok (.value (.pointer (some ⟨g,off+k,none⟩))) w:=Zl 29 x i ho g off k n cap 3 hx hi Tryz.underlying29 (by kernel_rfl) hk w
theorem QX{o:Oper}{a:Act}(x i:Operand)(ho:o.op= .indexAddr 66 x i)(g off k n cap:Nat)(hx:a.eval x= .slice (some ⟨g,off,none⟩) n cap)(hi:a.eval i= .int .i64 (k:Nat))(hk:k<n)(w:World):(execOp a.eval o).run Tryz.prog w= .ok (.value (.pointer (some ⟨g,off+k,none⟩))) w:=Zl 66 x i ho g off k n cap 4 hx hi Tryz.underlying66 (by kernel_rfl) hk w
theorem Hj{o:Oper}{a:Act}(x y:Operand)(ho:o.op= .binOp .eql 3 x y 3)(p q:Nat)(hx:a.eval x= .int .i64 (p:Nat))(hy:a.eval y= .int .i64 (q:Nat))(w:World):(execOp a.eval o).run Tryz.prog w= .ok (.value (.bool (p==q))) w:=by
 have e:((p:Int)==(q:Int))=(p==q):=by rw[Bool.eq_iff_iff];simp;omega
 unfold execOp;simp only[ho,hx,hy];rw[←e];go_simp
theorem Fa{o:Oper}{a:Act}(x y:Operand)(ho:o.op= .binOp .quo 3 x y 3)(p q:Nat)(hx:a.eval x= .int .i64 ((p*q:Nat):Int))(hy:a.eval y= .int .i64 (q:Nat))(hq:0<q)(hp:p*q≤1000000)(w:World):(execOp a.eval o).run Tryz.prog w= .ok (.value (.int .i64 (p:Nat))) w:=by
 have e:((p*q:Nat):Int).tdiv (q:Int)=(p:Int):=by
  rw[←Int.ofNat_tdiv,Nat.mul_div_cancel _ hq]
 have hq':¬((q:Nat):Int)=0:=by omega
 have hle:p≤1000000:=by
  have:=Nat.le_mul_of_pos_right p hq;omega
 unfold execOp;simp only[ho,hx,hy];generalize ((p*q:Nat):Int)=X at *;generalize ((q:Nat):Int)=Q at *;go_simp;exact IntWalk.i64_in _ (by omega)
def Gd:Except Er Pt→Except Er Pt
 | .error e=> .error e
 | .ok p=> .ok { p with kids:= [] }
def Ui(ps:List Pt)(n:Nd)(ks:List Nat):Except Er Pt:=
 if n.op=qZ then
  if(ks.map (sz ps)).sum≤8192 then .ok ⟨3,(ks.map (sz ps)).sum,ks,0,0,0,[],[]⟩else .error (134,n.a)
 else if ks.all (λk=>sz ps k==sz ps (ks.getD 0 0))then .ok ⟨4,sz ps (ks.getD 0 0),ks,0,0,0,[],[]⟩else .error (134,n.a)
end
end Go.Proofs.YtebcfkigbbolaaaGreatDoor
