import Derived.Test.YtebcfkigbbolaaaGreatDoorJoint05
import Derived.Test.YtebcfkigbbolaaaGreatDoorJoint04
import Derived.Test.YtebcfkigbbolaaaGreatDoorJoint03
import Derived.Test.YtebcfkigbbolaaaGreatDoorJoint02
namespace Go.Proofs.YtebcfkigbbolaaaGreatDoor
set_option linter.unusedVariables false
set_option maxRecDepth 100000
set_option maxHeartbeats 40000000
section
open Go.ChangeShapes Go.WideShapes Go.ChangeAt Go.RowKit
def vU(n:Nd):Bool:=
 (if n.op=zc∨n.op=zg then j2 n.n&&decide (n.l.length=0)
  else if n.op=zT∨n.op=zD then decide (n.n=0)&&decide (n.l.length=1)&&xM (n.l.getD 0 (.mk [] [] 0 0 []))
  else if n.op=zp then decide (n.n=0)&&decide (n.l.length=1)&&zL 12 (n.l.getD 0 (.mk [] [] 0 0 []))
  else if n.op=zv then(decide (n.n=0)||decide (n.n=1))&&decide (n.l.length=0)
  else false)
theorem Yh(n:Nd):vG n=(vg n.s&&vU n):=rfl
theorem XB(s:List UInt8)(M at_:Int)(l:List Nd)(A:Option Addr)(C:Nat)(w:World)(h:jZ w (.mk zc s M at_ l) A C)(hname:vg s=true):
 Calls Tryz.prog 49 #[.agg (zR (.mk zc s M at_ l) (.slice A l.length C))] w (Ve w (vU (.mk zc s M at_ l))):=by
 have hlen:=h.len;have hnam:=λW=>vh (.mk zc s M at_ l) A l.length C W (by have:=h.s;omega)
 have hl2:((l.length:Nat):Int)≤9223372036854775807:=by have h1:=hlen.1;have h2:=hlen.2;simp only[Nd.l]at h1;omega
 simp only[Nd.s,hname]at hnam;have hnum:=λW=>ZK (.mk zc s M at_ l) A l.length C W
 have hR:vU (.mk zc s M at_ l)=(j2 M&&decide (l.length=0)):=if_pos (by first |exact .inl rfl|exact .inr rfl);rw[hR];unfold zR at hnum;simp only[Nd.op,Nd.s,Nd.n,Nd.a,xu]at hnum;unfold zR at hnam ⊢;simp only[Nd.op,Nd.s,Nd.n,Nd.a,xu]at hnam ⊢;clear h hlen hR;generalize j2 M=B at *;generalize l.length=L at *;cases B
 ·go_enter Tryz.func49,Tryz.ntmps49
  go_wp2_with (first
   |(go_at_call 80;refine(hnam _).mono ?_;rintro e w1 ⟨rfl,hb1⟩;have hN1:=(ze.new w _ _).below hb1 (by simp);have n0:=hN1.cell 0;have n2:=hN1.cell 2;have n4:=hN1.cell 4;have q0:=hN1.cell 1;have q3:=hN1.cell 3;have hlN:=hN1.lt)
   |(go_at_call 81;refine(hnum _).mono ?_;rintro e w2 ⟨rfl,hb2⟩))
  go_ret
  exact⟨rfl,((zd w _).trans (hb1.mono (by simp))).trans (hb2.mono (by have:=hb1.size;simp at this;omega))⟩
 ·by_cases hL0:L=0
  ·subst hL0
   go_enter Tryz.func49,Tryz.ntmps49
   go_wp2_with (first
    |(go_at_call 80;refine(hnam _).mono ?_;rintro e w1 ⟨rfl,hb1⟩;have hN1:=(ze.new w _ _).below hb1 (by simp);have n0:=hN1.cell 0;have n2:=hN1.cell 2;have n4:=hN1.cell 4;have q0:=hN1.cell 1;have q3:=hN1.cell 3;have hlN:=hN1.lt)
    |(go_at_call 81;refine(hnum _).mono ?_;rintro e w2 ⟨rfl,hb2⟩;have m4:=(hN1.below hb2 hlN).cell 4))
   go_ret
   exact⟨rfl,((zd w _).trans (hb1.mono (by simp))).trans (hb2.mono (by have:=hb1.size;simp at this;omega))⟩
  ·have hL0':¬(L:Int)=0:=by omega
   go_enter Tryz.func49,Tryz.ntmps49
   go_wp2_with (first
    |(go_at_call 80;refine(hnam _).mono ?_;rintro e w1 ⟨rfl,hb1⟩;have hN1:=(ze.new w _ _).below hb1 (by simp);have n0:=hN1.cell 0;have n2:=hN1.cell 2;have n4:=hN1.cell 4;have q0:=hN1.cell 1;have q3:=hN1.cell 3;have hlN:=hN1.lt)
    |(go_at_call 81;refine(hnum _).mono ?_;rintro e w2 ⟨rfl,hb2⟩;have m4:=(hN1.below hb2 hlN).cell 4))
   go_ret
   exact⟨by simp[hL0],((zd w _).trans (hb1.mono (by simp))).trans (hb2.mono (by have:=hb1.size;simp at this;omega))⟩
theorem VO(s:List UInt8)(M at_:Int)(l:List Nd)(A:Option Addr)(C:Nat)(w:World)(h:jZ w (.mk zg s M at_ l) A C)(hname:vg s=true):
 Calls Tryz.prog 49 #[.agg (zR (.mk zg s M at_ l) (.slice A l.length C))] w (Ve w (vU (.mk zg s M at_ l))):=by
 have hlen:=h.len;have hnam:=λW=>vh (.mk zg s M at_ l) A l.length C W (by have:=h.s;omega)
 have hl2:((l.length:Nat):Int)≤9223372036854775807:=by have h1:=hlen.1;have h2:=hlen.2;simp only[Nd.l]at h1;omega
 simp only[Nd.s,hname]at hnam;have hnum:=λW=>ZK (.mk zg s M at_ l) A l.length C W
 have hR:vU (.mk zg s M at_ l)=(j2 M&&decide (l.length=0)):=if_pos (by first |exact .inl rfl|exact .inr rfl);rw[hR];unfold zR at hnum;simp only[Nd.op,Nd.s,Nd.n,Nd.a,yG]at hnum;unfold zR at hnam ⊢;simp only[Nd.op,Nd.s,Nd.n,Nd.a,yG]at hnam ⊢;clear h hlen hR;generalize j2 M=B at *;generalize l.length=L at *;cases B
 ·go_enter Tryz.func49,Tryz.ntmps49
  go_wp2_with (first
   |(go_at_call 80;refine(hnam _).mono ?_;rintro e w1 ⟨rfl,hb1⟩;have hN1:=(ze.new w _ _).below hb1 (by simp);have n0:=hN1.cell 0;have n2:=hN1.cell 2;have n4:=hN1.cell 4;have q0:=hN1.cell 1;have q3:=hN1.cell 3;have hlN:=hN1.lt)
   |(go_at_call 81;refine(hnum _).mono ?_;rintro e w2 ⟨rfl,hb2⟩))
  go_ret
  exact⟨rfl,((zd w _).trans (hb1.mono (by simp))).trans (hb2.mono (by have:=hb1.size;simp at this;omega))⟩
 ·by_cases hL0:L=0
  ·subst hL0
   go_enter Tryz.func49,Tryz.ntmps49
   go_wp2_with (first
    |(go_at_call 80;refine(hnam _).mono ?_;rintro e w1 ⟨rfl,hb1⟩;have hN1:=(ze.new w _ _).below hb1 (by simp);have n0:=hN1.cell 0;have n2:=hN1.cell 2;have n4:=hN1.cell 4;have q0:=hN1.cell 1;have q3:=hN1.cell 3;have hlN:=hN1.lt)
    |(go_at_call 81;refine(hnum _).mono ?_;rintro e w2 ⟨rfl,hb2⟩;have m4:=(hN1.below hb2 hlN).cell 4))
   go_ret
   exact⟨rfl,((zd w _).trans (hb1.mono (by simp))).trans (hb2.mono (by have:=hb1.size;simp at this;omega))⟩
  ·have hL0':¬(L:Int)=0:=by omega
   go_enter Tryz.func49,Tryz.ntmps49
   go_wp2_with (first
    |(go_at_call 80;refine(hnam _).mono ?_;rintro e w1 ⟨rfl,hb1⟩;have hN1:=(ze.new w _ _).below hb1 (by simp);have n0:=hN1.cell 0;have n2:=hN1.cell 2;have n4:=hN1.cell 4;have q0:=hN1.cell 1;have q3:=hN1.cell 3;have hlN:=hN1.lt)
    |(go_at_call 81;refine(hnum _).mono ?_;rintro e w2 ⟨rfl,hb2⟩;have m4:=(hN1.below hb2 hlN).cell 4))
   go_ret
   exact⟨by simp[hL0],((zd w _).trans (hb1.mono (by simp))).trans (hb2.mono (by have:=hb1.size;simp at this;omega))⟩
theorem gJ(s:List UInt8)(M at_:Int)(l:List Nd)(A:Option Addr)(C:Nat)(w:World)(h:jZ w (.mk zT s M at_ l) A C)(hname:vg s=true):
 Calls Tryz.prog 49 #[.agg (zR (.mk zT s M at_ l) (.slice A l.length C))] w (Ve w (vU (.mk zT s M at_ l))):=by
 have hlen:=h.len;have hnam:=λW=>vh (.mk zT s M at_ l) A l.length C W (by have:=h.s;omega)
 have hl2:((l.length:Nat):Int)≤9223372036854775807:=by have h1:=hlen.1;have h2:=hlen.2;simp only[Nd.l]at h1;omega
 simp only[Nd.s,hname]at hnam;have hR:vU (.mk zT s M at_ l)=(decide (M=0)&&decide (l.length=1)&&xM (l.getD 0 (.mk [] [] 0 0 []))):=(if_neg (by show ¬(zT=zc∨zT=zg);decide)).trans (if_pos (by first |exact .inl rfl|exact .inr rfl));rw[hR];unfold zR at hnam ⊢;simp only[Nd.op,Nd.s,Nd.n,Nd.a,VY]at hnam ⊢;by_cases hM:M=0
 ·subst hM
  by_cases hL1:l.length=1
  ·obtain⟨m,rfl⟩:=List.length_eq_one_iff.1 hL1
   obtain⟨g,off,u,rfl,hg,hc,hru,hsu,hou⟩:=h.rd.get 0 (by simp[Nd.l]);simp only[Nd.l,List.getElem_cons_zero]at hc hru hsu hou;obtain⟨Au,Cu,rfl,hu1,hu2⟩:=hru.slice;have d0:=hc 0 (by decide);have d1:=hc 1 (by decide);have d2:=hc 2 (by decide);have d3:=hc 3 (by decide);have d4:=hc 4 (by decide);simp only[zR,Nat.zero_mul,Nat.add_zero]at d0 d1 d2 d3 d4;have hgu:∀W,Below w.heap.size w W→jZ W m Au Cu:=λW hW=>jZ.grow (w:=w) ⟨hru,hsu,hou⟩ hW
   have hsub:∀W,Below w.heap.size w W→Calls Tryz.prog 82 #[.agg #[.string (bs m.op),.string (bs m.s),.int .i64 m.n,.int .i64 m.a,.slice Au m.l.length Cu]] W (Ve W (xM m)):=λW hW=>ux m Au m.l.length Cu W hsu rfl (Nat.le_trans hu1 hu2)
   obtain⟨B,hB⟩:∃B,B=xM m:=⟨_,rfl⟩
   have hV:(decide ((0:Int)=0)&&decide (([m]:List Nd).length=1)&&xM (([m]:List Nd).getD 0 (.mk [] [] 0 0 [])))=B:=by rw[hB];simp
   rw[←hB]at hsub;rw[hV];clear hV hB;show Calls _ _ _ _ (Ve w B);rw[show([m]:List Nd).length=1 from rfl]at hnam ⊢;clear h hlen hR hc hL1 hl2;go_enter Tryz.func49,Tryz.ntmps49
   go_wp2_with (first
    |((go_at_call 80)
      refine(hnam _).mono ?_;rintro e w1 ⟨rfl,hb1⟩;have hN1:=(ze.new w _ _).below hb1 (by simp);have n0:=hN1.cell 0;have n2:=hN1.cell 2;have n4:=hN1.cell 4;have hlN:=hN1.lt;have hbw:Below w.heap.size w w1:=(zd w _).trans (hb1.mono (by simp));have e0:=za hbw d0;have e1:=za hbw d1;have e2:=za hbw d2;have e3:=za hbw d3;(have e4:=za hbw d4))
    |(go_at_call 82;refine(hsub _ hbw).mono ?_;rintro e w2 ⟨rfl,hb2⟩))
   go_ret
   exact⟨rfl,hbw.trans (hb2.mono hbw.size)⟩
  ·have hL1':¬((l.length:Nat):Int)=1:=by omega
   have hD:decide (l.length=1)=false:=by simp[hL1]
   rw[hD,Bool.and_false,Bool.false_and];clear h hlen hR hD;generalize l.length=L at *;go_enter Tryz.func49,Tryz.ntmps49
   go_wp2_with (go_at_call 80;refine(hnam _).mono ?_;rintro e w1 ⟨rfl,hb1⟩;have hN1:=(ze.new w _ _).below hb1 (by simp);have n0:=hN1.cell 0;have n2:=hN1.cell 2;have n4:=hN1.cell 4;have q0:=hN1.cell 1;have q3:=hN1.cell 3;have hlN:=hN1.lt)
   go_ret
   exact⟨rfl,(zd w _).trans (hb1.mono (by simp))⟩
 ·have hD:decide (M=0)=false:=by simp[hM]
  rw[hD,Bool.false_and,Bool.false_and];clear h hlen hR hD;generalize l.length=L at *;go_enter Tryz.func49,Tryz.ntmps49
  go_wp2_with (go_at_call 80;refine(hnam _).mono ?_;rintro e w1 ⟨rfl,hb1⟩;have hN1:=(ze.new w _ _).below hb1 (by simp);have n0:=hN1.cell 0;have n2:=hN1.cell 2;have n4:=hN1.cell 4;have q0:=hN1.cell 1;have q3:=hN1.cell 3;have hlN:=hN1.lt)
  go_ret
  exact⟨rfl,(zd w _).trans (hb1.mono (by simp))⟩
theorem Uk(s:List UInt8)(M at_:Int)(l:List Nd)(A:Option Addr)(C:Nat)(w:World)(h:jZ w (.mk zD s M at_ l) A C)(hname:vg s=true):
 Calls Tryz.prog 49 #[.agg (zR (.mk zD s M at_ l) (.slice A l.length C))] w (Ve w (vU (.mk zD s M at_ l))):=by
 have hlen:=h.len;have hnam:=λW=>vh (.mk zD s M at_ l) A l.length C W (by have:=h.s;omega)
 have hl2:((l.length:Nat):Int)≤9223372036854775807:=by have h1:=hlen.1;have h2:=hlen.2;simp only[Nd.l]at h1;omega
 simp only[Nd.s,hname]at hnam;have hR:vU (.mk zD s M at_ l)=(decide (M=0)&&decide (l.length=1)&&xM (l.getD 0 (.mk [] [] 0 0 []))):=(if_neg (by show ¬(zD=zc∨zD=zg);decide)).trans (if_pos (by first |exact .inl rfl|exact .inr rfl));rw[hR];unfold zR at hnam ⊢;simp only[Nd.op,Nd.s,Nd.n,Nd.a,Jg]at hnam ⊢;by_cases hM:M=0
 ·subst hM
  by_cases hL1:l.length=1
  ·obtain⟨m,rfl⟩:=List.length_eq_one_iff.1 hL1
   obtain⟨g,off,u,rfl,hg,hc,hru,hsu,hou⟩:=h.rd.get 0 (by simp[Nd.l]);simp only[Nd.l,List.getElem_cons_zero]at hc hru hsu hou;obtain⟨Au,Cu,rfl,hu1,hu2⟩:=hru.slice;have d0:=hc 0 (by decide);have d1:=hc 1 (by decide);have d2:=hc 2 (by decide);have d3:=hc 3 (by decide);have d4:=hc 4 (by decide);simp only[zR,Nat.zero_mul,Nat.add_zero]at d0 d1 d2 d3 d4;have hgu:∀W,Below w.heap.size w W→jZ W m Au Cu:=λW hW=>jZ.grow (w:=w) ⟨hru,hsu,hou⟩ hW
   have hsub:∀W,Below w.heap.size w W→Calls Tryz.prog 82 #[.agg #[.string (bs m.op),.string (bs m.s),.int .i64 m.n,.int .i64 m.a,.slice Au m.l.length Cu]] W (Ve W (xM m)):=λW hW=>ux m Au m.l.length Cu W hsu rfl (Nat.le_trans hu1 hu2)
   obtain⟨B,hB⟩:∃B,B=xM m:=⟨_,rfl⟩
   have hV:(decide ((0:Int)=0)&&decide (([m]:List Nd).length=1)&&xM (([m]:List Nd).getD 0 (.mk [] [] 0 0 [])))=B:=by rw[hB];simp
   rw[←hB]at hsub;rw[hV];clear hV hB;show Calls _ _ _ _ (Ve w B);rw[show([m]:List Nd).length=1 from rfl]at hnam ⊢;clear h hlen hR hc hL1 hl2;go_enter Tryz.func49,Tryz.ntmps49
   go_wp2_with (first
    |((go_at_call 80)
      refine(hnam _).mono ?_;rintro e w1 ⟨rfl,hb1⟩;have hN1:=(ze.new w _ _).below hb1 (by simp);have n0:=hN1.cell 0;have n2:=hN1.cell 2;have n4:=hN1.cell 4;have hlN:=hN1.lt;have hbw:Below w.heap.size w w1:=(zd w _).trans (hb1.mono (by simp));have e0:=za hbw d0;have e1:=za hbw d1;have e2:=za hbw d2;have e3:=za hbw d3;(have e4:=za hbw d4))
    |(go_at_call 82;refine(hsub _ hbw).mono ?_;rintro e w2 ⟨rfl,hb2⟩))
   go_ret
   exact⟨rfl,hbw.trans (hb2.mono hbw.size)⟩
  ·have hL1':¬((l.length:Nat):Int)=1:=by omega
   have hD:decide (l.length=1)=false:=by simp[hL1]
   rw[hD,Bool.and_false,Bool.false_and];clear h hlen hR hD;generalize l.length=L at *;go_enter Tryz.func49,Tryz.ntmps49
   go_wp2_with (go_at_call 80;refine(hnam _).mono ?_;rintro e w1 ⟨rfl,hb1⟩;have hN1:=(ze.new w _ _).below hb1 (by simp);have n0:=hN1.cell 0;have n2:=hN1.cell 2;have n4:=hN1.cell 4;have q0:=hN1.cell 1;have q3:=hN1.cell 3;have hlN:=hN1.lt)
   go_ret
   exact⟨rfl,(zd w _).trans (hb1.mono (by simp))⟩
 ·have hD:decide (M=0)=false:=by simp[hM]
  rw[hD,Bool.false_and,Bool.false_and];clear h hlen hR hD;generalize l.length=L at *;go_enter Tryz.func49,Tryz.ntmps49
  go_wp2_with (go_at_call 80;refine(hnam _).mono ?_;rintro e w1 ⟨rfl,hb1⟩;have hN1:=(ze.new w _ _).below hb1 (by simp);have n0:=hN1.cell 0;have n2:=hN1.cell 2;have n4:=hN1.cell 4;have q0:=hN1.cell 1;have q3:=hN1.cell 3;have hlN:=hN1.lt)
  go_ret
  exact⟨rfl,(zd w _).trans (hb1.mono (by simp))⟩
theorem Xz(s:List UInt8)(M at_:Int)(l:List Nd)(A:Option Addr)(C:Nat)(w:World)(h:jZ w (.mk zp s M at_ l) A C)(hname:vg s=true):
 Calls Tryz.prog 49 #[.agg (zR (.mk zp s M at_ l) (.slice A l.length C))] w (Ve w (vU (.mk zp s M at_ l))):=by
 have hlen:=h.len;have hnam:=λW=>vh (.mk zp s M at_ l) A l.length C W (by have:=h.s;omega)
 have hl2:((l.length:Nat):Int)≤9223372036854775807:=by have h1:=hlen.1;have h2:=hlen.2;simp only[Nd.l]at h1;omega
 simp only[Nd.s,hname]at hnam;have hR:vU (.mk zp s M at_ l)=(decide (M=0)&&decide (l.length=1)&&zL 12 (l.getD 0 (.mk [] [] 0 0 []))):=(if_neg (by show ¬(zp=zc∨zp=zg);decide)).trans ((if_neg (by show ¬(zp=zT∨zp=zD);decide)).trans (if_pos rfl));rw[hR];unfold zR at hnam ⊢;simp only[Nd.op,Nd.s,Nd.n,Nd.a,xo]at hnam ⊢;by_cases hM:M=0
 ·subst hM
  by_cases hL1:l.length=1
  ·obtain⟨m,rfl⟩:=List.length_eq_one_iff.1 hL1
   obtain⟨g,off,u,rfl,hg,hc,hru,hsu,hou⟩:=h.rd.get 0 (by simp[Nd.l]);simp only[Nd.l,List.getElem_cons_zero]at hc hru hsu hou;obtain⟨Au,Cu,rfl,hu1,hu2⟩:=hru.slice;have d0:=hc 0 (by decide);have d1:=hc 1 (by decide);have d2:=hc 2 (by decide);have d3:=hc 3 (by decide);have d4:=hc 4 (by decide);simp only[zR,Nat.zero_mul,Nat.add_zero]at d0 d1 d2 d3 d4;have hgu:∀W,Below w.heap.size w W→jZ W m Au Cu:=λW hW=>jZ.grow (w:=w) ⟨hru,hsu,hou⟩ hW
   have hsub:∀W,Below w.heap.size w W→Calls Tryz.prog 83 #[.agg #[.string (bs m.op),.string (bs m.s),.int .i64 m.n,.int .i64 m.a,.slice Au m.l.length Cu],.int .i64 1] W (Ve W (zL 12 m)):=λW hW=>Df 12 1 m Au Cu W rfl (hgu W hW)
   obtain⟨B,hB⟩:∃B,B=zL 12 m:=⟨_,rfl⟩
   have hV:(decide ((0:Int)=0)&&decide (([m]:List Nd).length=1)&&zL 12 (([m]:List Nd).getD 0 (.mk [] [] 0 0 [])))=B:=by rw[hB];simp
   rw[←hB]at hsub;rw[hV];clear hV hB;show Calls _ _ _ _ (Ve w B);rw[show([m]:List Nd).length=1 from rfl]at hnam ⊢;clear h hlen hR hc hL1 hl2;go_enter Tryz.func49,Tryz.ntmps49
   go_wp2_with (first
    |((go_at_call 80)
      refine(hnam _).mono ?_;rintro e w1 ⟨rfl,hb1⟩;have hN1:=(ze.new w _ _).below hb1 (by simp);have n0:=hN1.cell 0;have n2:=hN1.cell 2;have n4:=hN1.cell 4;have hlN:=hN1.lt;have hbw:Below w.heap.size w w1:=(zd w _).trans (hb1.mono (by simp));have e0:=za hbw d0;have e1:=za hbw d1;have e2:=za hbw d2;have e3:=za hbw d3;(have e4:=za hbw d4))
    |(go_at_call 83;refine(hsub _ hbw).mono ?_;rintro e w2 ⟨rfl,hb2⟩))
   go_ret
   exact⟨rfl,hbw.trans (hb2.mono hbw.size)⟩
  ·have hL1':¬((l.length:Nat):Int)=1:=by omega
   have hD:decide (l.length=1)=false:=by simp[hL1]
   rw[hD,Bool.and_false,Bool.false_and];clear h hlen hR hD;generalize l.length=L at *;go_enter Tryz.func49,Tryz.ntmps49
   go_wp2_with (go_at_call 80;refine(hnam _).mono ?_;rintro e w1 ⟨rfl,hb1⟩;have hN1:=(ze.new w _ _).below hb1 (by simp);have n0:=hN1.cell 0;have n2:=hN1.cell 2;have n4:=hN1.cell 4;have q0:=hN1.cell 1;have q3:=hN1.cell 3;have hlN:=hN1.lt)
   go_ret
   exact⟨rfl,(zd w _).trans (hb1.mono (by simp))⟩
 ·have hD:decide (M=0)=false:=by simp[hM]
  rw[hD,Bool.false_and,Bool.false_and];clear h hlen hR hD;generalize l.length=L at *;go_enter Tryz.func49,Tryz.ntmps49
  go_wp2_with (go_at_call 80;refine(hnam _).mono ?_;rintro e w1 ⟨rfl,hb1⟩;have hN1:=(ze.new w _ _).below hb1 (by simp);have n0:=hN1.cell 0;have n2:=hN1.cell 2;have n4:=hN1.cell 4;have q0:=hN1.cell 1;have q3:=hN1.cell 3;have hlN:=hN1.lt)
  go_ret
  exact⟨rfl,(zd w _).trans (hb1.mono (by simp))⟩
theorem Xl(s:List UInt8)(M at_:Int)(l:List Nd)(A:Option Addr)(C:Nat)(w:World)(h:jZ w (.mk zv s M at_ l) A C)(hname:vg s=true):
 Calls Tryz.prog 49 #[.agg (zR (.mk zv s M at_ l) (.slice A l.length C))] w (Ve w (vU (.mk zv s M at_ l))):=by
 have hlen:=h.len;have hnam:=λW=>vh (.mk zv s M at_ l) A l.length C W (by have:=h.s;omega)
 have hl2:((l.length:Nat):Int)≤9223372036854775807:=by have h1:=hlen.1;have h2:=hlen.2;simp only[Nd.l]at h1;omega
 simp only[Nd.s,hname]at hnam;have hR:vU (.mk zv s M at_ l)=((decide (M=0)||decide (M=1))&&decide (l.length=0)):=(if_neg (by show ¬(zv=zc∨zv=zg);decide)).trans ((if_neg (by show ¬(zv=zT∨zv=zD);decide)).trans ((if_neg (by show ¬zv=zp;decide)).trans (if_pos rfl)));rw[hR];unfold zR at hnam ⊢;simp only[Nd.op,Nd.s,Nd.n,Nd.a,xn]at hnam ⊢;clear h hlen hR;generalize l.length=L at *;by_cases hM:M=0
 ·subst hM
  by_cases hL0:L=0
  ·subst hL0
   go_enter Tryz.func49,Tryz.ntmps49
   go_wp2_with (go_at_call 80;refine(hnam _).mono ?_;rintro e w1 ⟨rfl,hb1⟩;have hN1:=(ze.new w _ _).below hb1 (by simp);have n0:=hN1.cell 0;have n2:=hN1.cell 2;have n4:=hN1.cell 4;have q0:=hN1.cell 1;have q3:=hN1.cell 3;have hlN:=hN1.lt)
   go_ret
   exact⟨rfl,(zd w _).trans (hb1.mono (by simp))⟩
  ·have hL0':¬(L:Int)=0:=by omega
   go_enter Tryz.func49,Tryz.ntmps49
   go_wp2_with (go_at_call 80;refine(hnam _).mono ?_;rintro e w1 ⟨rfl,hb1⟩;have hN1:=(ze.new w _ _).below hb1 (by simp);have n0:=hN1.cell 0;have n2:=hN1.cell 2;have n4:=hN1.cell 4;have q0:=hN1.cell 1;have q3:=hN1.cell 3;have hlN:=hN1.lt)
   go_ret
   exact⟨by simp[hL0],(zd w _).trans (hb1.mono (by simp))⟩
 ·by_cases hM1:M=1
  ·subst hM1
   by_cases hL0:L=0
   ·subst hL0
    go_enter Tryz.func49,Tryz.ntmps49
    go_wp2_with (go_at_call 80;refine(hnam _).mono ?_;rintro e w1 ⟨rfl,hb1⟩;have hN1:=(ze.new w _ _).below hb1 (by simp);have n0:=hN1.cell 0;have n2:=hN1.cell 2;have n4:=hN1.cell 4;have q0:=hN1.cell 1;have q3:=hN1.cell 3;have hlN:=hN1.lt)
    go_ret
    exact⟨rfl,(zd w _).trans (hb1.mono (by simp))⟩
   ·have hL0':¬(L:Int)=0:=by omega
    go_enter Tryz.func49,Tryz.ntmps49
    go_wp2_with (go_at_call 80;refine(hnam _).mono ?_;rintro e w1 ⟨rfl,hb1⟩;have hN1:=(ze.new w _ _).below hb1 (by simp);have n0:=hN1.cell 0;have n2:=hN1.cell 2;have n4:=hN1.cell 4;have q0:=hN1.cell 1;have q3:=hN1.cell 3;have hlN:=hN1.lt)
    go_ret
    exact⟨by simp[hL0],(zd w _).trans (hb1.mono (by simp))⟩
  ·go_enter Tryz.func49,Tryz.ntmps49
   go_wp2_with (go_at_call 80;refine(hnam _).mono ?_;rintro e w1 ⟨rfl,hb1⟩;have hN1:=(ze.new w _ _).below hb1 (by simp);have n0:=hN1.cell 0;have n2:=hN1.cell 2;have n4:=hN1.cell 4;have q0:=hN1.cell 1;have q3:=hN1.cell 3;have hlN:=hN1.lt)
   go_ret
   exact⟨by simp[hM,hM1],(zd w _).trans (hb1.mono (by simp))⟩
theorem VF(n:Nd)(A:Option Addr)(C:Nat)(w:World)(h:jZ w n A C):Calls Tryz.prog 49 #[.agg (zR n (.slice A n.l.length C))] w (Ve w (vG n)):=by
 rw[Yh];cases hname:vg n.s with
 |false =>
  have hnam:=λW=>vh n A n.l.length C W (by have:=h.s;omega)
  rw[hname]at hnam;unfold zR at *;clear hname;go_enter Tryz.func49,Tryz.ntmps49
  go_wp2_with (go_at_call 80;refine(hnam _).mono ?_;rintro e w1 ⟨rfl,hb1⟩)
  go_ret
  exact⟨rfl,(zd w _).trans (hb1.mono (by simp))⟩
 |true =>
  rw[Bool.true_and];obtain⟨op,s,M,at_,l⟩:=n;simp only[Nd.s]at hname;by_cases h1:op=zc
  ·subst h1;exact XB s M at_ l A C w h hname
  by_cases h2:op=zg
  ·subst h2;exact VO s M at_ l A C w h hname
  by_cases h3:op=zT
  ·subst h3;exact gJ s M at_ l A C w h hname
  by_cases h4:op=zD
  ·subst h4;exact Uk s M at_ l A C w h hname
  by_cases h5:op=zp
  ·subst h5;exact Xz s M at_ l A C w h hname
  by_cases h6:op=zv
  ·subst h6;exact Xl s M at_ l A C w h hname
  have hR:vU (.mk op s M at_ l)=false:=(if_neg (by show ¬(op=zc∨op=zg);simp[h1,h2])).trans ((if_neg (by show ¬(op=zT∨op=zD);simp[h3,h4])).trans ((if_neg h5).trans (if_neg h6)));rw[hR];have hnam:=λW=>vh (.mk op s M at_ l) A l.length C W (by have:=h.s;omega)
  simp only[Nd.s,hname]at hnam;have ho:=zx op;have t1:(op== [100,101,118,105,99,101])=false:=by rw[beq_eq_false_iff_ne];exact h1
  have t2:(op== [106,111,117,114,110,97,108])=false:=by rw[beq_eq_false_iff_ne];exact h2
  have t3:(op== [107,101,121])=false:=by rw[beq_eq_false_iff_ne];exact h3
  have t4:(op== [114,111,111,116])=false:=by rw[beq_eq_false_iff_ne];exact h4
  have t5:(op== [118,111,108,117,109,101])=false:=by rw[beq_eq_false_iff_ne];exact h5
  have t6:(op== [101,120,112,111,114,116])=false:=by rw[beq_eq_false_iff_ne];exact h6
  unfold zR at *;simp only[Nd.op,Nd.s,Nd.n,Nd.a,Nd.l]at *;generalize l.length=L at *;clear hR hname h1 h2 h3 h4 h5 h6;go_enter Tryz.func49,Tryz.ntmps49
  go_wp2_with (go_at_call 80;refine(hnam _).mono ?_;rintro e w1 ⟨rfl,hb1⟩;have hN1:=(ze.new w _ _).below hb1 (by simp);have n0:=hN1.cell 0)
  go_ret
  exact⟨rfl,(zd w _).trans (hb1.mono (by simp))⟩
theorem Gl(n:Nd)(A:Option Addr)(C:Nat)(w:World)(h:jZ w n A C):Calls Tryz.prog 23 #[.agg (zR n (.slice A n.l.length C))] w (Ve w (xP n)):=by
 have hlen:=h.len;have ho:=zx n.op;have hs:=zx n.s;have hst:=λm Au Cu W (hr:jZ W m Au Cu)=>VF m Au Cu W hr
 obtain⟨L,hL⟩:∃L,L=n.l.length:=⟨_,rfl⟩
 have HL:Hid (L=n.l.length):=hL;have hL2:L≤9223372036854775807:=by omega
 have hE:xP n=((List.range L).all (λi=>vG (n.l.getD i (.mk [] [] 0 0 [])))&&(n.op==ji&&(n.s== []&&decide (n.n=0)))):=by
  unfold xP;rw[hL,Bool.and_assoc,Bool.and_assoc]
  congr 1
  rw[Bool.eq_iff_iff,List.all_eq_true,List.all_eq_true];constructor
  ·intro hh i hi
   have hi':=List.mem_range.1 hi;rw[List.getD_eq_getElem?_getD,List.getElem?_eq_getElem hi'];exact hh _ (List.getElem_mem hi')
  ·intro hh x hx
   obtain⟨i,hi,rfl⟩:=List.getElem_of_mem hx;have:=hh i (List.mem_range.2 hi);rw[List.getD_eq_getElem?_getD,List.getElem?_eq_getElem hi]at this;exact this
 rw[hE,←hL];generalize hp:(λi=>vG (n.l.getD i (.mk [] [] 0 0 [])))=p;have HP:Hid (∀i,p i=vG (n.l.getD i (.mk [] [] 0 0 []))):=λi=>by rw[←hp]
 have hrd:=h;clear hp hE hL hlen;rw[show(zR n (.slice A L C))= #[.string (bs n.op),.string (bs n.s),.int .i64 n.n,.int .i64 n.a,.slice A L C]from rfl];go_enter Tryz.func23,Tryz.ntmps23
 go_wp2
 obtain⟨W1,hW1⟩:∃W,W=w.alloc (.cells #[.string (bs n.op),.string (bs n.s),.int .i64 n.n,.int .i64 n.a,.slice A L C] 24):=⟨_,rfl⟩
 have hb1:Below w.heap.size w W1:=by rw[hW1];exact zd _ _
 have hN1:ze W1 w.heap.size 24 #[.string (bs n.op),.string (bs n.s),.int .i64 n.n,.int .i64 n.a,.slice A L C]:=by rw[hW1];exact ze.new _ _ _
 rw[←hW1];clear hW1;have hA0:(List.range 0).all p=true:=rfl
 go_loopw [8] (λz wz=>∃i:Nat,i≤L∧z= .int .i64 (i:Nat)∧Below W1.heap.size W1 wz∧(List.range i).all p=true) (λz _=>L-(intOf z).toNat)
 case atStart=>exact⟨0,Nat.zero_le _,rfl,Below.refl _ _,hA0⟩
 case round =>
  clear hA0;obtain⟨i,hi,rfl,hbz,hall⟩:=hrel;have HA:Hid ((List.range i).all p=true):=hall;clear hall;have hbwr:Below w.heap.size w wr:=hb1.trans (hbz.mono hb1.size);by_cases hiL:i<L
  ·have hiL2:(i:Int)<(L:Int):=by omega
   have hiL':i<n.l.length:=by rw[←HL.out];exact hiL
   have hR:=(hrd.grow hbwr).rd;rw[←HL.out]at hR;obtain⟨g,off,u,rfl,hg,hc,hru,hsu,hou⟩:=hR.get i hiL'
   obtain⟨m,hm⟩:∃m,m=n.l[i]:=⟨_,rfl⟩
   rw[←hm]at hc hru hsu hou;obtain⟨Au,Cu,rfl,-,-⟩:=hru.slice;have d0:=hc 0 (by decide);have d1:=hc 1 (by decide);have d2:=hc 2 (by decide);have d3:=hc 3 (by decide);have d4:=hc 4 (by decide);simp only[Nat.add_zero]at d0;simp only[zR]at d0 d1 d2 d3 d4;have hp1:p i=vG m:=by rw[HP.out i,hm,List.getD_eq_getElem?_getD,List.getElem?_eq_getElem hiL'];rfl
   have HP1:Hid (p i=vG m):=hp1;have hpm:=λW hW=>hst m Au Cu W (jZ.grow (w:=wr) ⟨hru,hsu,hou⟩ hW)
   unfold zR at hpm;generalize vG m=V at hpm HP1;clear hp1 hm hc hR hst;cases V with
   |true =>
    go_wp2_with (go_at_call 49;refine(hpm _ (zd _ _)).mono ?_;rintro e w4 ⟨rfl,hb4⟩)
    go_roundw
    case rel=>exact⟨i+1,by omega,by go_num,hbz.trans (((zd wr _).trans (hb4.mono (by simp))).mono hbz.size),by rw[Vw,HA.out,HP1.out];rfl⟩
    case measure=>simp[intOf];omega
   |false =>
    go_wp2_with (go_at_call 49;refine(hpm _ (zd _ _)).mono ?_;rintro e w4 ⟨rfl,hb4⟩)
    go_ret
    refine⟨zU ?_,hbwr.trans (((zd wr _).trans (hb4.mono (by simp))).mono hbwr.size)⟩
    symm
    have :(List.range L).all p=false:=by
     rw[List.all_eq_false];exact⟨i,List.mem_range.2 hiL,by rw[HP1.out];decide⟩
    rw[this,Bool.false_and]
  ·have hiL2:i=L:=by omega
   subst hiL2;have hN2:=hN1.below hbz hN1.lt;have x0:=hN2.cell 0;have x1:=hN2.cell 1;have x2:=hN2.cell 2;clear hst;generalize n.n=M at *
   cases e1:(n.op==ji)
   ·have e1':(n.op== [102,105,108,101])=false:=e1
    go_wp2
    go_ret
    exact⟨zU (by rw[HA.out,e1];rfl),hbwr⟩
   ·have e1':(n.op== [102,105,108,101])=true:=e1
    cases e2:(n.s== [])
    ·go_wp2
     go_ret
     exact⟨zU (by rw[HA.out,e1,e2];rfl),hbwr⟩
    ·by_cases hM:M=0
     ·subst hM
      go_wp2
      go_ret
      exact⟨zU (by rw[HA.out]),hbwr⟩
     ·go_wp2
      go_ret
      exact⟨zU (by rw[HA.out,e1,e2];simp[hM]),hbwr⟩
def uf(w:World)(rb:Nat)(A:Option Addr)(C:Nat)(ts:zo)(i en:Nat)(bad:Int)(p:Tk→Bool)(e:Ending)(w':World):Prop:=∃(i':Nat) (bad':Int) (x:Tk×Nat),e= .returned (.agg (qt x.1 x.2))∧qX w rb A C ts i en w' i' bad'∧zX bad (zn p en (ts.drop i)) ts x i' bad'∧(x ∈ ts∨x=(⟨0,[],0⟩,0))
theorem Kp.drew{p:Nat}{w w':World}(h:Kp p w w'):Kp p w w'.drew:=⟨h.os,h.tape,h.output,h.size,h.block⟩
theorem ze.oth4{w:World}{g g' t:Nat}{cs:Array Value}(h:ze w g t cs)(hne:g≠g')(x0 x1 x2 x3:Value):ze ((((w.setCell ⟨g',0,none⟩ x0).setCell ⟨g',1,none⟩ x1).setCell ⟨g',2,none⟩ x2).setCell ⟨g',3,none⟩ x3) g t cs:=
 (((h.other (p:=⟨g',0,none⟩) hne x0).other (p:=⟨g',1,none⟩) hne x1).other (p:=⟨g',2,none⟩) hne x2).other (p:=⟨g',3,none⟩) hne x3
theorem xl{w:World}{rb:Nat}{A:Option Addr}{C:Nat}{ts:zo}{i en:Nat}{bad k:Int}(h:zF w rb A C ts i en bad k)(K:Nat):Calls Tryz.prog 46 #[.pointer (some ⟨rb,0,none⟩),.int .i64 (K:Nat)] w (uf w rb A C ts i en bad (jS K)):=by
 have c0:=h.has.cell 0;have c1:=h.has.cell 1;have c3:=h.has.cell 3;simp only[jg,jd,jf]at c0 c1 c3;have hlt:=h.has.lt;have hf:=h.few;have hle:=h.le;have h':=h.kp (zd w (.cells #[.int .i64 0,.string ⟨#[]⟩,.int .i64 0,.int .i64 0] 100));have hT:=ze.new w 100 #[.int .i64 0,.string ⟨#[]⟩,.int .i64 0,.int .i64 0];have fin:∀(w1:World) (bad':Int) (k':Int),bad'≠0→(bad≠0∨qz (jS K) (ts.drop i)=false)→zF w1 rb A C ts i en bad' k'→Kp rb (w.alloc (.cells #[.int .i64 0,.string ⟨#[]⟩,.int .i64 0,.int .i64 0] 100)) w1→uf w rb A C ts i en bad (jS K) (.returned (.agg (qt (⟨0,[],0⟩:Tk) 0))) w1:=λw1 bad' k' hb hc hr hk=>⟨i,bad',(⟨0,[],0⟩,0),rfl,qX.of (Nat.le_refl _) (xI hk) hr,Z5 hc hb _ _,.inr rfl⟩
 have c0':=za (zd w (.cells #[.int .i64 0,.string ⟨#[]⟩,.int .i64 0,.int .i64 0] 100)) c0;have c1':=za (zd w (.cells #[.int .i64 0,.string ⟨#[]⟩,.int .i64 0,.int .i64 0] 100)) c1;have c3':=za (zd w (.cells #[.int .i64 0,.string ⟨#[]⟩,.int .i64 0,.int .i64 0] 100)) c3;by_cases hs:bad=0∧∃hi:i<ts.length,ts[i].1.kind=K
 ·obtain⟨rfl,hi,hk⟩:=hs
  obtain⟨g,off,rfl,hg,hne,htk0⟩:=h.tok i hi;have htk:=htk0.kp (Kp.of (p:=rb) (zd w (.cells #[.int .i64 0,.string ⟨#[]⟩,.int .i64 0,.int .i64 0] 100))) hne hg;have t0:=htk i hi 0 (by decide);have t1:=htk i hi 1 (by decide);have t2:=htk i hi 2 (by decide);have t3:=htk i hi 3 (by decide);have hx:ts[i] ∈ ts:=List.getElem_mem hi;have hp:jS K ts[i].1=true:=by simp[jS,hk]
  have hTell:=Z2 (en:=en) hi hp;have hq:∀W,ze W rb 61 #[.slice (some ⟨g,off,none⟩) ts.length C,.int .i64 ((i:Int)+1),.int .i64 (en:Nat),.int .i64 0,.int .i64 k]→Kp rb w W→uf w rb (some ⟨g,off,none⟩) C ts i en 0 (jS K) (.returned (.agg (qt ts[i].1 ts[i].2))) W:=λW hW hkp=>⟨i+1,0,ts[i],rfl,⟨by omega,by omega,hkp,k,hW⟩,hTell,.inl hx⟩
  have hH:=h'.has;clear hTell hp h fin c0 c1 c3 htk htk0 hx h';generalize ts[i]=t at *;generalize ts.length=L at *;have hii:(i:Int)<(L:Int):=by omega
  have hi5:(i:Int)≤500:=by omega
  obtain⟨⟨tk,tss,tn⟩,ta⟩:=t;obtain rfl:tk=K:=hk;simp only[qt,List.getElem?_toArray,List.getElem?_cons_zero,List.getElem?_cons_succ,Nat.add_zero]at t0 t1 t2 t3;have hg2:g≠w.heap.size:=by omega
  have f1:=hH.free 1;have a0:=hT.cell 0;have a1:=hT.cell 1;have a2:=hT.cell 2;have a3:=hT.cell 3;have b0:=hT.free 0;have b1:=hT.free 1;have b2:=hT.free 2;have b3:=hT.free 3;go_enter Tryz.func46,Tryz.ntmps46
  go_wp2
  go_quiet (fail)
  go_wp2
  go_region
  go_wp2
  have hT1:ze (((w.alloc (.cells #[.int .i64 0,.string ⟨#[]⟩,.int .i64 0,.int .i64 0] 100)).drewN nq).setCell ⟨rb,1,none⟩ (.int .i64 ((i:Int)+1))) w.heap.size 100 #[.int .i64 0,.string ⟨#[]⟩,.int .i64 0,.int .i64 0]:=(hT.drewN nq).other (by show w.heap.size≠rb;omega) _;refine JC rfl rfl (zq (hT1.set4 _ _ _ _)) rfl (hq _ ?_ ?_)
  ·have hh:=(hH.drewN nq).putP 1 (.int .i64 ((i:Int)+1))
   have hh2:=hh.oth4 (g':=w.heap.size) (by omega) (.int .i64 (tk:Nat)) (.string (bs tss)) (.int .i64 (tn:Nat)) (.int .i64 (ta:Nat));exact zq hh2
  ·have hk1:Kp rb w (w.alloc (.cells #[.int .i64 0,.string ⟨#[]⟩,.int .i64 0,.int .i64 0] 100)):=Kp.of (zd w _)
   exact Kp.drew ((((((hk1.drewN nq).setP 1 _).setNew (q:=⟨w.heap.size,0,none⟩) (Nat.le_refl _) _).setNew (q:=⟨w.heap.size,1,none⟩) (Nat.le_refl _) _).setNew (q:=⟨w.heap.size,2,none⟩) (Nat.le_refl _) _).setNew (q:=⟨w.heap.size,3,none⟩) (Nat.le_refl _) _)
 ·have hcase:bad≠0∨qz (jS K) (ts.drop i)=false:=by
   by_cases hb:bad=0
   ·right
    by_cases hi:i<ts.length
    ·rw[qu hi]
     simp only[jS,beq_eq_false_iff_ne];exact λe=>hs ⟨hb,hi,e⟩
    ·exact v8 hi
   ·exact .inl hb
  have go:=λw1 bad' k' hb hr hk=>fin w1 bad' k' hb hcase hr hk
  have done:∀(w1:World) (bad' k':Int) (a:Act),bad'≠0→zF w1 rb A C ts i en bad' k'→Kp rb (w.alloc (.cells #[.int .i64 0,.string ⟨#[]⟩,.int .i64 0,.int .i64 0] 100)) w1→a.tmps[4]?.getD undef= .pointer (some ⟨w.heap.size,0,none⟩)→a.defers= []→bodyPost Tryz.prog Tryz.f46 (uf w rb A C ts i en bad (jS K)) .ret a ((((w1.setCell ⟨w.heap.size,0,none⟩ (.int .i64 0)).setCell ⟨w.heap.size,1,none⟩ (.string ⟨#[]⟩)).setCell ⟨w.heap.size,2,none⟩ (.int .i64 0)).setCell ⟨w.heap.size,3,none⟩ (.int .i64 0)):=by
   intro w1 bad' k' a hb hr hk ht hd;have hT2:ze w1 w.heap.size 100 #[.int .i64 0,.string ⟨#[]⟩,.int .i64 0,.int .i64 0]:=(hk.block _ hT.lt (λe=>by cases e;omega)).trans hT;refine JC rfl ht (hT2.set4 _ _ _ _) hd ?_;refine⟨i,bad',(⟨0,[],0⟩,0),rfl,?_,Z5 hcase hb _ _,.inr rfl⟩;have h0:qX w rb A C ts i en w1 i bad':=qX.of (Nat.le_refl _) (xI hk) hr;exact(((h0.new (q:=⟨w.heap.size,0,none⟩) (Nat.le_refl _) hlt _).new (q:=⟨w.heap.size,1,none⟩) (Nat.le_refl _) hlt _).new (q:=⟨w.heap.size,2,none⟩) (Nat.le_refl _) hlt _).new (q:=⟨w.heap.size,3,none⟩) (Nat.le_refl _) hlt _
  have hF:=λq=>QP (h'.drewN q) 111 (by decide)
  clear fin go c0 c1 c3;have hd0:∀b:Int,b≠0→decide (b=0)=false:=λb h=>decide_eq_false h
  by_cases hb:bad=0
  ·subst hb
   by_cases hi:i<ts.length
   ·obtain⟨g,off,rfl,hg,hne,htk0⟩:=h.tok i hi
    have htk:=htk0.kp (Kp.of (p:=rb) (zd w (.cells #[.int .i64 0,.string ⟨#[]⟩,.int .i64 0,.int .i64 0] 100))) hne hg;have t0:=htk i hi 0 (by decide);have hkk:¬ts[i].1.kind=K:=λe=>hs ⟨rfl,hi,e⟩
    clear hs hcase h htk htk0 hd0;generalize ts[i]=t at *;obtain⟨⟨tk,tss,tn⟩,ta⟩:=t;simp only[qt,List.getElem?_toArray,List.getElem?_cons_zero,Nat.add_zero]at t0 hkk;have hki:decide ((tk:Int)=(K:Int))=false:=decide_eq_false (by omega);have hkj:(tk==K)=false:=by rw[beq_eq_false_iff_ne];omega
    have hkl:decide (tk=K)=false:=decide_eq_false hkk;have hkm:((tk:Int) != (K:Int))=true:=by rw[bne_iff_ne];omega
    clear h';generalize ts.length=L at *;have hii:(i:Int)<(L:Int):=by omega
    go_enter Tryz.func46,Tryz.ntmps46
    go_wp2
    go_quiet (fail)
    go_wp2_with (first
     |((go_at_call 44)
       refine(hF _).mono ?_;rintro e w1 ⟨rfl,bad',k',hb',h',hk⟩;have hT2:ze w1 w.heap.size 100 #[.int .i64 0,.string ⟨#[]⟩,.int .i64 0,.int .i64 0]:=(hk.block _ hT.lt (λe=>by cases e;omega)).trans hT;have a0:=hT2.cell 0;have a1:=hT2.cell 1;have a2:=hT2.cell 2;have a3:=hT2.cell 3;have b0:=hT2.free 0;have b1:=hT2.free 1;have b2:=hT2.free 2;have b3:=hT2.free 3;(have lt2:=hT2.lt)))
    exact done w1 bad' k' _ hb' h' ⟨hk.os,hk.tape,hk.output,hk.size,hk.block⟩ rfl rfl
   ·clear hs hcase h hd0 h'
    generalize ts.length=L at *;have hii:¬(i:Int)<(L:Int):=by omega
    go_enter Tryz.func46,Tryz.ntmps46
    go_wp2
    go_quiet (fail)
    go_wp2_with (first
     |((go_at_call 44)
       refine(hF _).mono ?_;rintro e w1 ⟨rfl,bad',k',hb',h',hk⟩;have hT2:ze w1 w.heap.size 100 #[.int .i64 0,.string ⟨#[]⟩,.int .i64 0,.int .i64 0]:=(hk.block _ hT.lt (λe=>by cases e;omega)).trans hT;have a0:=hT2.cell 0;have a1:=hT2.cell 1;have a2:=hT2.cell 2;have a3:=hT2.cell 3;have b0:=hT2.free 0;have b1:=hT2.free 1;have b2:=hT2.free 2;have b3:=hT2.free 3;(have lt2:=hT2.lt)))
    exact done w1 bad' k' _ hb' h' ⟨hk.os,hk.tape,hk.output,hk.size,hk.block⟩ rfl rfl
  ·have hd:=hd0 bad hb
   have hd2:(bad==0)=false:=by simpa using hb
   have hd3:(bad != 0)=true:=by rw[bne,hd2];rfl
   clear hs hcase h hd0 h';generalize ts.length=L at *;go_enter Tryz.func46,Tryz.ntmps46
   go_wp2
   go_quiet (fail)
   go_wp2_with (first
    |((go_at_call 44)
      refine(hF _).mono ?_;rintro e w1 ⟨rfl,bad',k',hb',h',hk⟩;have hT2:ze w1 w.heap.size 100 #[.int .i64 0,.string ⟨#[]⟩,.int .i64 0,.int .i64 0]:=(hk.block _ hT.lt (λe=>by cases e;omega)).trans hT;have a0:=hT2.cell 0;have a1:=hT2.cell 1;have a2:=hT2.cell 2;have a3:=hT2.cell 3;have b0:=hT2.free 0;have b1:=hT2.free 1;have b2:=hT2.free 2;have b3:=hT2.free 3;(have lt2:=hT2.lt)))
   exact done w1 bad' k' _ hb' h' ⟨hk.os,hk.tape,hk.output,hk.size,hk.block⟩ rfl rfl
def qj(w:World)(rb:Nat)(A:Option Addr)(C:Nat)(ts:zo)(i en:Nat)(bad:Int)(P:jk Nd)(e:Ending)(w':World):Prop:=∃(i':Nat) (bad':Int) (x:Nd) (Ax:Option Addr) (Cx:Nat),e= .returned (.agg (zR x (.slice Ax x.l.length Cx)))∧jB w' (λg=>w.heap.size≤g) x.l (.slice Ax x.l.length Cx)∧qX w rb A C ts i en w' i' bad'∧zX bad (P en (ts.drop i)) ts x i' bad'∧x.l.length≤501
theorem jG{B:Nat}{w w':World}(h:Below B w w')(n:Nat):Below B w (w'.drewN n):=⟨h.os,h.tape,h.output,h.size,h.block⟩
theorem Vl{o:Oper}{a:Act}(x i:Operand)(ho:o.op= .indexAddr 56 x i)(g off k n cap:Nat)(hx:a.eval x= .slice (some ⟨g,off,none⟩) n cap)(hi:a.eval i= .int .i64 (k:Nat))(hk:k<n)(w:World):(execOp a.eval o).run Tryz.prog w= .ok (.value (.pointer (some ⟨g,off+k*4,none⟩))) w:=by
 unfold execOp;obtain⟨i0,hq,hz0,hz,hz2⟩:=info_parts Tryz.infoTok;simp only[ho,hx,hi];simp[Instr.indexAt,Instr.sureAddr,run_underlying Tryz.underlying56,asIntOf,sizeOf,typeInfo,hq,hz,Addr.add_mid,go_sem];intro h;omega
theorem qX.set5{w w1:World}{rb:Nat}{A:Option Addr}{C:Nat}{ts:zo}{i i' en:Nat}{bad':Int}(h:qX w rb A C ts i en w1 i' bad'){g:Nat}(hq:w.heap.size≤g)(hr:rb<w.heap.size)(x0 x1 x2 x3 x4:Value):qX w rb A C ts i en (ZB w1 g x0 x1 x2 x3 x4) i' bad':=
 ((((h.new (q:=⟨g,0,none⟩) hq hr x0).new (q:=⟨g,1,none⟩) hq hr x1).new (q:=⟨g,2,none⟩) hq hr x2).new (q:=⟨g,3,none⟩) hq hr x3).new (q:=⟨g,4,none⟩) hq hr x4
theorem Jd{w:World}{rb:Nat}{A:Option Addr}{C:Nat}{ts:zo}{i en:Nat}{bad k:Int}(h:zF w rb A C ts i en bad k)(pe:jk Nd):Calls Tryz.prog 78 #[.pointer (some ⟨rb,0,none⟩)] w (qj w rb A C ts i en bad (jC pe .nu)):=by
 have hlt:=h.has.lt;have h':=h.kp (zd w (.cells #[.string ⟨#[]⟩,.string ⟨#[]⟩,.int .i64 0,.int .i64 0,.slice none 0 0] 24));have hN:=ze.new w 24 #[.string ⟨#[]⟩,.string ⟨#[]⟩,.int .i64 0,.int .i64 0,.slice none 0 0];have hc:=xl h' 1
 have fin:∀(w1:World) (i':Nat) (bad':Int) (tk:Nat) (tss:List UInt8) (tn ta:Nat) (a:Act),qX (w.alloc (.cells #[.string ⟨#[]⟩,.string ⟨#[]⟩,.int .i64 0,.int .i64 0,.slice none 0 0] 24)) rb A C ts i en w1 i' bad'→zX bad (zn (jS 1) en (ts.drop i)) ts ((⟨tk,tss,tn⟩:Tk),ta) i' bad'→a.tmps[2]?.getD undef= .pointer (some ⟨w.heap.size,0,none⟩)→a.defers= []→bodyPost Tryz.prog Tryz.f78 (qj w rb A C ts i en bad (jC pe .nu)) .ret a ((ZB w1 w.heap.size (.string ⟨#[110,117,109]⟩) (.string ⟨#[]⟩) (.int .i64 (tn:Nat)) (.int .i64 (ta:Nat)) (.slice none 0 0)).alloc (.cells #[.int .i64 (tk:Nat),.string (bs tss),.int .i64 (tn:Nat),.int .i64 (ta:Nat)] 100)):=by
  intro w1 i' bad' tk tss tn ta a hs hT ha hd;have hN1:ze w1 w.heap.size 24 #[.string ⟨#[]⟩,.string ⟨#[]⟩,.int .i64 0,.int .i64 0,.slice none 0 0]:=(hs.2.2.1.block _ hN.lt (λe=>by cases e;omega)).trans hN;refine zY rfl ha ((hN1.set5 _ _ _ _ _).alloc _) hd ?_;refine⟨i',bad',Nd.mk vk [] (tn:Nat) (ta:Nat) [],none,0,rfl,jB.nil _ _,?_,hT.map (λt=>Nd.mk vk [] ((t.1.n:Nat):Int) ((t.2:Nat):Int) []:Tk×Nat→Nd),by show 0≤501;omega⟩;exact(qX.set5 hs.left (Nat.le_refl _) hlt _ _ _ _ _).alloc _
 clear h h';go_enter Tryz.func78,Tryz.ntmps78
 go_wp2_with (first
  |((go_at_call 46)
    refine hc.mono ?_;rintro e w1 ⟨i',bad',⟨⟨tk,tss,tn⟩,ta⟩,rfl,hs,hT,hx⟩;have hN1:ze w1 w.heap.size 24 #[.string ⟨#[]⟩,.string ⟨#[]⟩,.int .i64 0,.int .i64 0,.slice none 0 0]:=(hs.2.2.1.block _ hN.lt (λe=>by cases e;omega)).trans hN;have n1:=hN1.lt;(have m1:w.heap.size≠w1.heap.size:=by omega);have a0:=hN1.cell 0;have b0:=hN1.free 0;have a1:=hN1.cell 1;have b1:=hN1.free 1;have a2:=hN1.cell 2;have b2:=hN1.free 2;have a3:=hN1.cell 3;have b3:=hN1.free 3;have a4:=hN1.cell 4;have b4:=hN1.free 4;(simp only[qt])))
 exact fin w1 i' bad' tk tss tn ta _ hs hT rfl rfl
theorem rname_c'{w:World}{rb:Nat}{A:Option Addr}{C:Nat}{ts:zo}{i en:Nat}{bad k:Int}(h:zF w rb A C ts i en bad k):Calls Tryz.prog 45 #[.pointer (some ⟨rb,0,none⟩)] w (uf w rb A C ts i en bad jl):=by
 have c0:=h.has.cell 0;have c1:=h.has.cell 1;simp only[jg,jd,jf]at c0 c1;have hlt:=h.has.lt;have hf:=h.few;have hle:=h.le;have h':=h.kp (zd w (.cells #[.int .i64 0,.string ⟨#[]⟩,.int .i64 0,.int .i64 0] 100));have hT0:=ze.new w 100 #[.int .i64 0,.string ⟨#[]⟩,.int .i64 0,.int .i64 0];have c0':=za (zd w (.cells #[.int .i64 0,.string ⟨#[]⟩,.int .i64 0,.int .i64 0] 100)) c0;have c1':=za (zd w (.cells #[.int .i64 0,.string ⟨#[]⟩,.int .i64 0,.int .i64 0] 100)) c1
 have done:∀(w1:World) (i':Nat) (bad':Int) (x:Tk×Nat) (a:Act),qX (w.alloc (.cells #[.int .i64 0,.string ⟨#[]⟩,.int .i64 0,.int .i64 0] 100)) rb A C ts i en w1 i' bad'→zX bad (zn jl en (ts.drop i)) ts x i' bad'→(x ∈ ts∨x=(⟨0,[],0⟩,0))→a.tmps[2]?.getD undef= .pointer (some ⟨w.heap.size,0,none⟩)→a.defers= []→bodyPost Tryz.prog Tryz.f45 (uf w rb A C ts i en bad jl) .ret a ((((w1.setCell ⟨w.heap.size,0,none⟩ (.int .i64 (x.1.kind:Nat))).setCell ⟨w.heap.size,1,none⟩ (.string (bs x.1.s))).setCell ⟨w.heap.size,2,none⟩ (.int .i64 (x.1.n:Nat))).setCell ⟨w.heap.size,3,none⟩ (.int .i64 (x.2:Nat))):=by
  intro w1 i' bad' x a hs hT hx ht hd;have hT2:ze w1 w.heap.size 100 #[.int .i64 0,.string ⟨#[]⟩,.int .i64 0,.int .i64 0]:=(hs.2.2.1.block _ hT0.lt (λe=>by cases e;omega)).trans hT0;refine JC rfl ht (hT2.set4 _ _ _ _) hd ?_;refine⟨i',bad',x,rfl,?_,hT,hx⟩;exact(((hs.left.new (q:=⟨w.heap.size,0,none⟩) (Nat.le_refl _) hlt _).new (q:=⟨w.heap.size,1,none⟩) (Nat.le_refl _) hlt _).new (q:=⟨w.heap.size,2,none⟩) (Nat.le_refl _) hlt _).new (q:=⟨w.heap.size,3,none⟩) (Nat.le_refl _) hlt _
 by_cases hs:∃hi:i<ts.length,ts[i].1.kind=0∧Zy ts[i].1.s=true
 ·obtain⟨hi,hk,hr⟩:=hs
  have hcase:qz jl (ts.drop i)=false:=by rw[qu hi];simp[jl,hr]
  obtain⟨g,off,rfl,hg,hne,htk0⟩:=h.tok i hi;have htk:=htk0.kp (Kp.of (p:=rb) (zd w (.cells #[.int .i64 0,.string ⟨#[]⟩,.int .i64 0,.int .i64 0] 100))) hne hg;have t0:=htk i hi 0 (by decide);have t1:=htk i hi 1 (by decide);have hR:=λW=>Jk ts[i].1.s W
  have hF:=λW (hb:Below (w.alloc (.cells #[.int .i64 0,.string ⟨#[]⟩,.int .i64 0,.int .i64 0] 100)).heap.size (w.alloc (.cells #[.int .i64 0,.string ⟨#[]⟩,.int .i64 0,.int .i64 0] 100)) W)=>QP (h'.kp hb) 111 (by decide)
  clear h h' htk htk0 c0 c1;generalize ts[i]=t at *;obtain⟨⟨tk,tss,tn⟩,ta⟩:=t;obtain rfl:tk=0:=hk;simp only[qt,List.getElem?_toArray,List.getElem?_cons_zero,List.getElem?_cons_succ,Nat.add_zero]at t0 t1 hr hR;rw[hr]at hR;have hii:(i:Int)<(ts.length:Int):=by omega
  have hL:Hid (ts.length=ts.length):=rfl;go_enter Tryz.func45,Tryz.ntmps45
  go_wp2
  go_quiet (fail)
  go_wp2
  refine wp_region_held_drew (S:=λwz=>wz.cell? ⟨rb,0,none⟩=some (.slice (some ⟨g,off,none⟩) ts.length C)∧wz.cell? ⟨rb,1,none⟩=some (.int .i64 (i:Nat))∧wz.cell? ⟨g,off+i*4+1,none⟩=some (.string (bs tss))∧Below (w.alloc (.cells #[.int .i64 0,.string ⟨#[]⟩,.int .i64 0,.int .i64 0] 100)).heap.size (w.alloc (.cells #[.int .i64 0,.string ⟨#[]⟩,.int .i64 0,.int .i64 0] 100)) wz) (by kernel_rfl) ⟨c0',c1',t1,(jG (Below.refl _ _) _).drew⟩ (λhHeld=>?_);refine zS 0 (some 28) (.pointer (some ⟨rb,0,none⟩)) hHeld ?_;simp only[Act.put,zk,zj,zl];refine zS 1 (some 29) (.pointer (some ⟨rb,0,none⟩)) hHeld ?_;simp only[Act.put,zk,zj,zl];refine zS 2 (some 30) (.pointer (some ⟨rb,0,none⟩)) hHeld ?_;simp only[Act.put,zk,zj,zl];refine qq 3 (some 31) (.slice (some ⟨g,off,none⟩) ts.length C) rfl rfl (λwz hz=>by obtain⟨z0,z1,z2,z3⟩:=hz;unfold execOp;go_simp) hHeld ?_;simp only[Act.put,zk,zj,zl];refine zS 4 (some 32) (.pointer (some ⟨rb,0,none⟩)) hHeld ?_;simp only[Act.put,zk,zj,zl];refine zS 5 (some 33) (.pointer (some ⟨rb,0,none⟩)) hHeld ?_;simp only[Act.put,zk,zj,zl];refine zS 6 (some 34) (.pointer (some ⟨rb,1,none⟩)) hHeld ?_;simp only[Act.put,zk,zj,zl];refine qq 7 (some 35) (.int .i64 (i:Nat)) rfl rfl (λwz hz=>by obtain⟨z0,z1,z2,z3⟩:=hz;unfold execOp;go_simp) hHeld ?_;simp only[Act.put,zk,zj,zl];refine qq 8 (some 36) (.pointer (some ⟨g,off+i*4,none⟩)) rfl rfl (λwz hz=>Vl _ _ rfl g off i ts.length C rfl rfl hi wz) hHeld ?_;simp only[Act.put,zk,zj,zl];refine zS 9 (some 37) (.pointer (some ⟨g,off+i*4+1,none⟩)) hHeld ?_;simp only[Act.put,zk,zj,zl];refine qq 10 (some 38) (.string (bs tss)) rfl rfl (λwz hz=>by obtain⟨z0,z1,z2,z3⟩:=hz;unfold execOp;go_simp) hHeld ?_;simp only[Act.put,zk,zj,zl];refine uh 11 (some 39) 76 #[.string (bs tss)] (by kernel_rfl) rfl rfl (by rfl) (by kernel_rfl) (hR _) ?_;rintro e w1 ⟨rfl,hb1⟩;have hb2:Below (w.alloc (.cells #[.int .i64 0,.string ⟨#[]⟩,.int .i64 0,.int .i64 0] 100)).heap.size (w.alloc (.cells #[.int .i64 0,.string ⟨#[]⟩,.int .i64 0,.int .i64 0] 100)) w1:=hHeld.2.2.2.trans (hb1.mono hHeld.2.2.2.size)
  have hH1:w1.cell? ⟨rb,0,none⟩=some (.slice (some ⟨g,off,none⟩) ts.length C)∧w1.cell? ⟨rb,1,none⟩=some (.int .i64 (i:Nat))∧w1.cell? ⟨g,off+i*4+1,none⟩=some (.string (bs tss))∧Below (w.alloc (.cells #[.int .i64 0,.string ⟨#[]⟩,.int .i64 0,.int .i64 0] 100)).heap.size (w.alloc (.cells #[.int .i64 0,.string ⟨#[]⟩,.int .i64 0,.int .i64 0] 100)) w1:=⟨za hb2 c0',za hb2 c1',za hb2 t1,hb2⟩
  refine⟨_,rfl,hH1,?_⟩;simp only[Act.put,zk,zj,zl];refine qq 12 (some 3) (.bool true) rfl rfl (λ_ _=>rfl) hH1 ?_;simp only[Act.put,zk,zj,zl];refine wpAnyH_done (by kernel_rfl) ?_ _
  go_wp2_with (first
   |((go_at_call 44)
     refine(hF _ hb2).mono ?_;rintro e w2 ⟨rfl,bad',k',hb',h',hk⟩;have hT2:ze w2 w.heap.size 100 #[.int .i64 0,.string ⟨#[]⟩,.int .i64 0,.int .i64 0]:=(hk.block _ (hT0.below hb2 hT0.lt).lt (λe=>by cases e;omega)).trans (hT0.below hb2 hT0.lt);have lt2:=hT2.lt;have a0:=hT2.cell 0;have b0:=hT2.free 0;have a1:=hT2.cell 1;have b1:=hT2.free 1;have a2:=hT2.cell 2;have b2:=hT2.free 2;have a3:=hT2.cell 3;(have b3:=hT2.free 3)))
  exact done w2 i bad' (⟨0,[],0⟩,0) _ (qX.of (Nat.le_refl _) ((Kp.of hb2).trans hk) h') (Z5 (.inr hcase) hb' _ _) (.inr rfl) rfl rfl
 ·have hpp:qz jl (ts.drop i)=qz (jS 0) (ts.drop i)∧(∀hi:i<ts.length,jS 0 ts[i].1=true→jl ts[i].1=true):=by
   constructor
   ·by_cases hi:i<ts.length
    ·rw[qu hi,qu hi]
     by_cases hk:ts[i].1.kind=0
     ·have :Zy ts[i].1.s=false:=by cases hr:Zy ts[i].1.s with
       |false=>rfl
       |true=>exact absurd ⟨hi,hk,hr⟩ hs
      simp[jl,jS,hk,this]
     ·simp[jl,jS,hk]
    ·rw[v8 hi,v8 hi]
   ·intro hi hk
    have hk':ts[i].1.kind=0:=by simpa [jS]using hk
    have :Zy ts[i].1.s=false:=by cases hr:Zy ts[i].1.s with
     |false=>rfl
     |true=>exact absurd ⟨hi,hk',hr⟩ hs
    simp[jl,hk',this]
  have hpar:zn jl en (ts.drop i)=zn (jS 0) en (ts.drop i):=by
   by_cases hi:i<ts.length
   ·rw[List.drop_eq_getElem_cons hi]
    have e:=hpp.1;rw[qu hi,qu hi]at e;simp only[zn,e]
   ·rw[List.drop_eq_nil_of_le (by omega)];rfl
  have hc:=λq=>xl (h'.drewN q) 0
  have done':∀q (w1:World) (i':Nat) (bad':Int) (x:Tk×Nat) (a:Act),qX ((w.alloc (.cells #[.int .i64 0,.string ⟨#[]⟩,.int .i64 0,.int .i64 0] 100)).drewN q) rb A C ts i en w1 i' bad'→zX bad (zn (jS 0) en (ts.drop i)) ts x i' bad'→(x ∈ ts∨x=(⟨0,[],0⟩,0))→a.tmps[2]?.getD undef= .pointer (some ⟨w.heap.size,0,none⟩)→a.defers= []→bodyPost Tryz.prog Tryz.f45 (uf w rb A C ts i en bad jl) .ret a ((((w1.setCell ⟨w.heap.size,0,none⟩ (.int .i64 (x.1.kind:Nat))).setCell ⟨w.heap.size,1,none⟩ (.string (bs x.1.s))).setCell ⟨w.heap.size,2,none⟩ (.int .i64 (x.1.n:Nat))).setCell ⟨w.heap.size,3,none⟩ (.int .i64 (x.2:Nat))):=λq w1 i' bad' x a hs' hT hx ht hd=>done w1 i' bad' x a ⟨hs'.1,hs'.2.1,⟨hs'.2.2.1.os,hs'.2.2.1.tape,hs'.2.2.1.output,hs'.2.2.1.size,hs'.2.2.1.block⟩,hs'.2.2.2⟩ (by rw[hpar];exact hT) hx ht hd
  by_cases hi:i<ts.length
  ·obtain⟨g,off,rfl,hg,hne,htk0⟩:=h.tok i hi
   have htk:=htk0.kp (Kp.of (p:=rb) (zd w (.cells #[.int .i64 0,.string ⟨#[]⟩,.int .i64 0,.int .i64 0] 100))) hne hg;have t0:=htk i hi 0 (by decide);have hR:=λW=>Jk ts[i].1.s W
   have t1:=htk i hi 1 (by decide)
   have hkr:ts[i].1.kind=0→Zy ts[i].1.s=false:=λhk=>by cases hr:Zy ts[i].1.s with
    |false=>rfl
    |true=>exact absurd ⟨hi,hk,hr⟩ hs
   have hcB:=λW (hb:Below (w.alloc (.cells #[.int .i64 0,.string ⟨#[]⟩,.int .i64 0,.int .i64 0] 100)).heap.size (w.alloc (.cells #[.int .i64 0,.string ⟨#[]⟩,.int .i64 0,.int .i64 0] 100)) W)=>xl (h'.kp hb) 0
   clear h h' htk htk0 c0 c1 hs hpp hpar;generalize ts[i]=t at *;obtain⟨⟨tk,tss,tn⟩,ta⟩:=t;simp only[qt,List.getElem?_toArray,List.getElem?_cons_zero,List.getElem?_cons_succ,Nat.add_zero]at t0 t1 hkr hR;have hii:(i:Int)<(ts.length:Int):=by omega
   by_cases hk0:tk=0
   ·subst hk0
    rw[hkr rfl]at hR;clear hkr;go_enter Tryz.func45,Tryz.ntmps45
    go_wp2
    go_quiet (fail)
    go_wp2
    refine wp_region_held_drew (S:=λwz=>wz.cell? ⟨rb,0,none⟩=some (.slice (some ⟨g,off,none⟩) ts.length C)∧wz.cell? ⟨rb,1,none⟩=some (.int .i64 (i:Nat))∧wz.cell? ⟨g,off+i*4+1,none⟩=some (.string (bs tss))∧Below (w.alloc (.cells #[.int .i64 0,.string ⟨#[]⟩,.int .i64 0,.int .i64 0] 100)).heap.size (w.alloc (.cells #[.int .i64 0,.string ⟨#[]⟩,.int .i64 0,.int .i64 0] 100)) wz) (by kernel_rfl) ⟨c0',c1',t1,(jG (Below.refl _ _) _).drew⟩ (λhHeld=>?_);refine zS 0 (some 28) (.pointer (some ⟨rb,0,none⟩)) hHeld ?_;simp only[Act.put,zk,zj,zl];refine zS 1 (some 29) (.pointer (some ⟨rb,0,none⟩)) hHeld ?_;simp only[Act.put,zk,zj,zl];refine zS 2 (some 30) (.pointer (some ⟨rb,0,none⟩)) hHeld ?_;simp only[Act.put,zk,zj,zl];refine qq 3 (some 31) (.slice (some ⟨g,off,none⟩) ts.length C) rfl rfl (λwz hz=>by obtain⟨z0,z1,z2,z3⟩:=hz;unfold execOp;go_simp) hHeld ?_;simp only[Act.put,zk,zj,zl];refine zS 4 (some 32) (.pointer (some ⟨rb,0,none⟩)) hHeld ?_;simp only[Act.put,zk,zj,zl];refine zS 5 (some 33) (.pointer (some ⟨rb,0,none⟩)) hHeld ?_;simp only[Act.put,zk,zj,zl];refine zS 6 (some 34) (.pointer (some ⟨rb,1,none⟩)) hHeld ?_;simp only[Act.put,zk,zj,zl];refine qq 7 (some 35) (.int .i64 (i:Nat)) rfl rfl (λwz hz=>by obtain⟨z0,z1,z2,z3⟩:=hz;unfold execOp;go_simp) hHeld ?_;simp only[Act.put,zk,zj,zl];refine qq 8 (some 36) (.pointer (some ⟨g,off+i*4,none⟩)) rfl rfl (λwz hz=>Vl _ _ rfl g off i ts.length C rfl rfl hi wz) hHeld ?_;simp only[Act.put,zk,zj,zl];refine zS 9 (some 37) (.pointer (some ⟨g,off+i*4+1,none⟩)) hHeld ?_;simp only[Act.put,zk,zj,zl];refine qq 10 (some 38) (.string (bs tss)) rfl rfl (λwz hz=>by obtain⟨z0,z1,z2,z3⟩:=hz;unfold execOp;go_simp) hHeld ?_;simp only[Act.put,zk,zj,zl];refine uh 11 (some 39) 76 #[.string (bs tss)] (by kernel_rfl) rfl rfl (by rfl) (by kernel_rfl) (hR _) ?_;rintro e w1 ⟨rfl,hb1⟩;have hb2:Below (w.alloc (.cells #[.int .i64 0,.string ⟨#[]⟩,.int .i64 0,.int .i64 0] 100)).heap.size (w.alloc (.cells #[.int .i64 0,.string ⟨#[]⟩,.int .i64 0,.int .i64 0] 100)) w1:=hHeld.2.2.2.trans (hb1.mono hHeld.2.2.2.size)
    have hH1:w1.cell? ⟨rb,0,none⟩=some (.slice (some ⟨g,off,none⟩) ts.length C)∧w1.cell? ⟨rb,1,none⟩=some (.int .i64 (i:Nat))∧w1.cell? ⟨g,off+i*4+1,none⟩=some (.string (bs tss))∧Below (w.alloc (.cells #[.int .i64 0,.string ⟨#[]⟩,.int .i64 0,.int .i64 0] 100)).heap.size (w.alloc (.cells #[.int .i64 0,.string ⟨#[]⟩,.int .i64 0,.int .i64 0] 100)) w1:=⟨za hb2 c0',za hb2 c1',za hb2 t1,hb2⟩
    refine⟨_,rfl,hH1,?_⟩;simp only[Act.put,zk,zj,zl];refine qq 12 (some 3) (.bool false) rfl rfl (λ_ _=>rfl) hH1 ?_;simp only[Act.put,zk,zj,zl];refine wpAnyH_done (by kernel_rfl) ?_ _
    go_wp2_with (first
     |((go_at_call 46)
       refine(hcB _ hb2).mono ?_;rintro e w2 ⟨i',bad',⟨⟨tk',tss',tn'⟩,ta'⟩,rfl,hs,hT,hx⟩;have hT2:ze w2 w.heap.size 100 #[.int .i64 0,.string ⟨#[]⟩,.int .i64 0,.int .i64 0]:=(hs.2.2.1.block _ (hT0.below hb2 hT0.lt).lt (λe=>by cases e;omega)).trans (hT0.below hb2 hT0.lt);have lt2:=hT2.lt;have a0:=hT2.cell 0;have b0:=hT2.free 0;have a1:=hT2.cell 1;have b1:=hT2.free 1;have a2:=hT2.cell 2;have b2:=hT2.free 2;have a3:=hT2.cell 3;have b3:=hT2.free 3;(simp only[qt])))
    exact done' 0 w2 i' bad' (⟨tk',tss',tn'⟩,ta') _ ⟨hs.1,hs.2.1,(Kp.of hb2).trans hs.2.2.1,hs.2.2.2⟩ hT hx rfl rfl
   ·have hkm:((tk:Int)==0)=false:=by rw[beq_eq_false_iff_ne];omega
    have hkn:decide ((tk:Int)=0)=false:=decide_eq_false (by omega);clear hkr hR;go_enter Tryz.func45,Tryz.ntmps45
    go_wp2
    go_quiet (fail)
    go_wp2_with (first
     |((go_at_call 46)
       refine(hc _).mono ?_;rintro e w2 ⟨i',bad',⟨⟨tk',tss',tn'⟩,ta'⟩,rfl,hs,hT,hx⟩;have hT2:ze w2 w.heap.size 100 #[.int .i64 0,.string ⟨#[]⟩,.int .i64 0,.int .i64 0]:=(hs.2.2.1.block _ hT0.lt (λe=>by cases e;omega)).trans hT0;have lt2:=hT2.lt;have a0:=hT2.cell 0;have b0:=hT2.free 0;have a1:=hT2.cell 1;have b1:=hT2.free 1;have a2:=hT2.cell 2;have b2:=hT2.free 2;have a3:=hT2.cell 3;have b3:=hT2.free 3;(simp only[qt])))
    exact done' _ w2 i' bad' (⟨tk',tss',tn'⟩,ta') _ hs hT hx rfl rfl
  ·clear hs hpp hpar h h' c0 c1
   have hii:¬(i:Int)<(ts.length:Int):=by omega
   go_enter Tryz.func45,Tryz.ntmps45
   go_wp2
   go_quiet (fail)
   go_wp2_with (first
    |((go_at_call 46)
      refine(hc _).mono ?_;rintro e w2 ⟨i',bad',⟨⟨tk',tss',tn'⟩,ta'⟩,rfl,hs,hT,hx⟩;have hT2:ze w2 w.heap.size 100 #[.int .i64 0,.string ⟨#[]⟩,.int .i64 0,.int .i64 0]:=(hs.2.2.1.block _ hT0.lt (λe=>by cases e;omega)).trans hT0;have lt2:=hT2.lt;have a0:=hT2.cell 0;have b0:=hT2.free 0;have a1:=hT2.cell 1;have b1:=hT2.free 1;have a2:=hT2.cell 2;have b2:=hT2.free 2;have a3:=hT2.cell 3;have b3:=hT2.free 3;(simp only[qt])))
   exact done' _ w2 i' bad' (⟨tk',tss',tn'⟩,ta') _ hs hT hx rfl rfl
theorem JR{w:World}{rb:Nat}{A:Option Addr}{C:Nat}{ts:zo}{i en:Nat}{bad k:Int}(h:zF w rb A C ts i en bad k)(pe:jk Nd):Calls Tryz.prog 79 #[.pointer (some ⟨rb,0,none⟩)] w (qj w rb A C ts i en bad (jC pe .na)):=by
 have hlt:=h.has.lt;have h':=h.kp (zd w (.cells #[.string ⟨#[]⟩,.string ⟨#[]⟩,.int .i64 0,.int .i64 0,.slice none 0 0] 24));have hN:=ze.new w 24 #[.string ⟨#[]⟩,.string ⟨#[]⟩,.int .i64 0,.int .i64 0,.slice none 0 0];have hc:=rname_c' h'
 have fin:∀(w1:World) (i':Nat) (bad':Int) (tk:Nat) (tss:List UInt8) (tn ta:Nat) (a:Act),qX (w.alloc (.cells #[.string ⟨#[]⟩,.string ⟨#[]⟩,.int .i64 0,.int .i64 0,.slice none 0 0] 24)) rb A C ts i en w1 i' bad'→zX bad (zn jl en (ts.drop i)) ts ((⟨tk,tss,tn⟩:Tk),ta) i' bad'→a.tmps[2]?.getD undef= .pointer (some ⟨w.heap.size,0,none⟩)→a.defers= []→bodyPost Tryz.prog Tryz.f79 (qj w rb A C ts i en bad (jC pe .na)) .ret a ((ZB w1 w.heap.size (.string ⟨#[110,97,109,101]⟩) (.string (bs tss)) (.int .i64 0) (.int .i64 (ta:Nat)) (.slice none 0 0)).alloc (.cells #[.int .i64 (tk:Nat),.string (bs tss),.int .i64 (tn:Nat),.int .i64 (ta:Nat)] 100)):=by
  intro w1 i' bad' tk tss tn ta a hs hT ha hd;have hN1:ze w1 w.heap.size 24 #[.string ⟨#[]⟩,.string ⟨#[]⟩,.int .i64 0,.int .i64 0,.slice none 0 0]:=(hs.2.2.1.block _ hN.lt (λe=>by cases e;omega)).trans hN;refine zY rfl ha ((hN1.set5 _ _ _ _ _).alloc _) hd ?_;refine⟨i',bad',Nd.mk js tss 0 (ta:Nat) [],none,0,rfl,jB.nil _ _,?_,hT.map (λt=>Nd.mk js t.1.s 0 ((t.2:Nat):Int) []:Tk×Nat→Nd),by show 0≤501;omega⟩;exact(qX.set5 hs.left (Nat.le_refl _) hlt _ _ _ _ _).alloc _
 clear h h';go_enter Tryz.func79,Tryz.ntmps79
 go_wp2_with (first
  |((go_at_call 45)
    refine hc.mono ?_;rintro e w1 ⟨i',bad',⟨⟨tk,tss,tn⟩,ta⟩,rfl,hs,hT,hx⟩;have hN1:ze w1 w.heap.size 24 #[.string ⟨#[]⟩,.string ⟨#[]⟩,.int .i64 0,.int .i64 0,.slice none 0 0]:=(hs.2.2.1.block _ hN.lt (λe=>by cases e;omega)).trans hN;have n1:=hN1.lt;(have m1:w.heap.size≠w1.heap.size:=by omega);have a0:=hN1.cell 0;have b0:=hN1.free 0;have a1:=hN1.cell 1;have b1:=hN1.free 1;have a2:=hN1.cell 2;have b2:=hN1.free 2;have a3:=hN1.cell 3;have b3:=hN1.free 3;have a4:=hN1.cell 4;have b4:=hN1.free 4;(simp only[qt])))
 exact fin w1 i' bad' tk tss tn ta _ hs hT rfl rfl
def ZC:List (List UInt8):= [jh,qZ,jq,qw,vx,qH,jV]
def gH:Array Value:=#[.string ⟨#[108,105,110,101,97,114]⟩,.string ⟨#[99,111,110,99,97,116]⟩,.string ⟨#[109,105,114,114,111,114]⟩,.string ⟨#[115,110,97,112,115,104,111,116]⟩,.string ⟨#[99,114,121,112,116]⟩,.string ⟨#[105,110,116,101,103,114,105,116,121]⟩,.string ⟨#[118,101,114,105,116,121]⟩]
theorem fB(k:Nat)(h:k<7):gH[k]?=some (.string (bs (ZC[k]'h))):=by
 match k,h with
 |0,_=>rfl
 |1,_=>rfl
 |2,_=>rfl
 |3,_=>rfl
 |4,_=>rfl
 |5,_=>rfl
 |6,_=>rfl
def STS:List (List UInt8):= [zc,zg,zT,zD,zp,zv]
def zap:Array Value:=#[.string ⟨#[100,101,118,105,99,101]⟩,.string ⟨#[106,111,117,114,110,97,108]⟩,.string ⟨#[107,101,121]⟩,.string ⟨#[114,111,111,116]⟩,.string ⟨#[118,111,108,117,109,101]⟩,.string ⟨#[101,120,112,111,114,116]⟩]
theorem DB(k:Nat)(h:k<6):zap[k]?=some (.string (bs (STS[k]'h))):=by
 match k,h with
 |0,_=>rfl
 |1,_=>rfl
 |2,_=>rfl
 |3,_=>rfl
 |4,_=>rfl
 |5,_=>rfl
def vj(l:List (List UInt8))(f:List UInt8→Bool):List UInt8:=(l.find? f).getD []
theorem FI{l:List (List UInt8)}{f:List UInt8→Bool}{k:Nat}(hk:k<l.length)(h:∀j (hj:j<k),f (l[j]'(by omega))=false)(hf:f l[k]=true):vj l f=l[k]:=by
 unfold vj
 have :l.find? f=some l[k]:=by
  rw[List.find?_eq_some_iff_getElem];exact⟨hf,k,hk,rfl,λj hj=>by simp[h j hj]⟩
 rw[this];rfl
theorem Qh{l:List (List UInt8)}{f:List UInt8→Bool}(h:∀j (hj:j<l.length),f l[j]=false):vj l f= []:=by
 unfold vj
 have :l.find? f=none:=by
  rw[List.find?_eq_none];intro x hx;obtain⟨j,hj,rfl⟩:=List.mem_iff_getElem.1 hx;simp[h j hj]
 rw[this];rfl
theorem Qb{w:World}{rb:Nat}{A:Option Addr}{C:Nat}{ts:zo}{i en:Nat}{bad k:Int}(h:zF w rb A C ts i en bad k):Calls Tryz.prog 77 #[.pointer (some ⟨rb,0,none⟩)] w λe w'=>e= .returned (.string (bs (vj ZC (vr bad ts i))))∧Below w.heap.size w w':=by
 have hH:ze (w.alloc (.cells gH 9)) w.heap.size 9 gH:=ze.new _ _ _;have hB:Below w.heap.size w (w.alloc (.cells gH 9)):=(Below.refl _ _).alloc (Nat.le_refl _) _
 obtain⟨W,hW⟩:∃W,W=w.alloc (.cells gH 9):=⟨_,rfl⟩
 rw[←hW]at hH hB;have h':=h.kp hB;have hs:=λq s=>j7 (h'.drewN q) s
 have HW:Hid (W=w.alloc (.cells gH 9)):=hW;clear hW h h';go_enter Tryz.func77,Tryz.ntmps77
 go_wp2_with (first
  |(refine zf 6 rfl ?_
    refine j1 (some 6) (.slice (some ⟨w.heap.size,0,none⟩) 7 7) W rfl (by rfl) (by rw[HW.out];kernel_rfl) ?_))
 go_loopw [4] (λz wr=>∃k q:Nat,k≤7∧z= .int .i64 (k:Nat)∧wr=W.drewN q∧Hid (∀j (hj:j<k) (h7:j<7),vr bad ts i (ZC[j]'h7)=false)) (λz _=>7-(intOf z).toNat)
 case atStart=>exact⟨0,0,Nat.zero_le _,rfl,rfl,(λj hj=>absurd hj (Nat.not_lt_zero _):∀j (hj:j<0) (h7:j<7),vr bad ts i (ZC[j]'h7)=false)⟩
 case round =>
  obtain⟨k,q,hk,rfl,rfl,HR⟩:=hrel;by_cases hlt:k<7
  ·have hc:W.cell? ⟨w.heap.size,k,none⟩=some (.string (bs (ZC[k]'hlt))):=by rw[hH.cell];exact fB k hlt
   have hs1:=hs q (ZC[k]'hlt)
   have HY:Hid (vr bad ts i (ZC[k]'hlt)=true→vj ZC (vr bad ts i)=ZC[k]'hlt):=(λe=>FI (l:=ZC) (k:=k) hlt (λj hj=>HR.out j hj (by omega)) e:vr bad ts i (ZC[k]'hlt)=true→vj ZC (vr bad ts i)=ZC[k]'hlt)
   have HN:Hid (vr bad ts i (ZC[k]'hlt)=false→∀j (hj:j<k+1) (h7:j<7),vr bad ts i (ZC[j]'h7)=false):=(λe j hj h7=>by
    by_cases e2:j<k
    ·exact HR.out j e2 h7
    ·obtain rfl:j=k:=by omega
     exact e:vr bad ts i (ZC[k]'hlt)=false→∀j (hj:j<k+1) (h7:j<7),vr bad ts i (ZC[j]'h7)=false)
   generalize ZC[k]'hlt=y at hc hs1 HY HN;cases e:vr bad ts i y
   ·rw[e]at hs1
    have HN2:=HN.out e;have HN3:Hid (∀j (hj:j<k+1) (h7:j<7),vr bad ts i (ZC[j]'h7)=false):=HN2;clear HN2 HN HY HR hs e
    go_wp2_with (first
     |((go_at_call 43)
       refine hs1.mono ?_;(rintro e w1 ⟨rfl,q2,rfl⟩)))
    go_roundw
    case rel=>exact⟨k+1,q+q2,by omega,by go_num,rfl,HN3⟩
    case measure=>simp[intOf];omega
   ·rw[e]at hs1
    have HY2:Hid (vj ZC (vr bad ts i)=y):=HY.out e;clear HN HY HR hs e
    go_wp2_with (first
     |((go_at_call 43)
       refine hs1.mono ?_;(rintro e w1 ⟨rfl,q2,rfl⟩)))
    go_ret
    exact⟨by rw[HY2.out];rfl,jG hB _⟩
  ·obtain rfl:k=7:=by omega
   have HZ:Hid (vj ZC (vr bad ts i)= []):=Qh (l:=ZC) (λj hj=>HR.out j hj hj);clear hs HR
   go_wp2
   go_ret
   exact⟨by rw[HZ.out];rfl,jG hB _⟩
end
section
variable {pe:jk Nd} {en:Nat} {ts:zo}
theorem Ga{ks:Kd}{kt:Kd}{b0 b1 b2 b3 b4 b5:Int}{i0 i1 i2 i3 i4 i5:Nat}{x1 x2 x3:Nd}{t2 t3:Tk×Nat}
 (h1:zX b0 (pe en (ts.drop i0)) ts x1 i1 b1) (h2:zX b1 (zn QR en (ts.drop i1)) ts t2 i2 b2) (h3:zX b2 (jC pe ks en (ts.drop i2)) ts x2 i3 b3) (h4:zX b3 (zn QR en (ts.drop i3)) ts t3 i4 b4) (h5:zX b4 (jC pe kt en (ts.drop i4)) ts x3 i5 b5):
 zX b0 (jx pe true [.ex,ks,kt] en (ts.drop i0)) ts [x1,x2,x3] i5 b5:=
 h1.bind ((h2.bind (h3.bind ((h4.bind (h5.bind ((zX.ret b5 ([]:List Nd) en ts i5).map (λl=>x3::l)))).map (λl=>x2::l)))).map (λl=>x1::l))
theorem YQ{ks:Kd}{b0 b1 b2 b3:Int}{i0 i1 i2 i3:Nat}{x1 x2:Nd}{t2:Tk×Nat}
 (h1:zX b0 (pe en (ts.drop i0)) ts x1 i1 b1) (h2:zX b1 (zn QR en (ts.drop i1)) ts t2 i2 b2) (h3:zX b2 (jC pe ks en (ts.drop i2)) ts x2 i3 b3):
 zX b0 (jx pe true [.ex,ks] en (ts.drop i0)) ts [x1,x2] i3 b3:=
 h1.bind ((h2.bind (h3.bind ((zX.ret b3 ([]:List Nd) en ts i3).map (λl=>x2::l)))).map (λl=>x1::l))
theorem uB{b0 b1:Int}{i0 i1:Nat}{x1:Nd}(h1:zX b0 (pe en (ts.drop i0)) ts x1 i1 b1):zX b0 (jx pe true [.ex] en (ts.drop i0)) ts [x1] i1 b1:=
 h1.bind ((zX.ret b1 ([]:List Nd) en ts i1).map (λl=>x1::l))
theorem ZD{op:List UInt8}{ks:List Kd}(hin:zr op=(ks,false)){b0 b1 b2 b3:Int}{i0 i1 i2 i3:Nat}{l:List Nd}{t1 t2:Tk×Nat}
 (h1:zX b0 (zn (qM [40]) en (ts.drop i0)) ts t1 i1 b1) (h2:zX b1 (jx pe true ks en (ts.drop i1)) ts l i2 b2) (h3:zX b2 (zn (qM [41]) en (ts.drop i2)) ts t2 i3 b3):
 zX b0 (qI pe op en (ts.drop i0)) ts l i3 b3:=by
 unfold qI;rw[hin];have:=h1.bind (f:=λ_=>zt (jx pe true ks) λl=>zt (qT []) λm=>zt (zn (qM [41])) λ_=>qT (l++m)) (h2.bind ((zX.ret b2 ([]:List Nd) en ts i2).bind (h3.map (λ_=>l++ []))))
 simpa using this
theorem Yg{op:List UInt8}{ks:List Kd}(hin:zr op=(ks,true)){b0 b1 b2 b3 b4:Int}{i0 i1 i2 i3 i4:Nat}{l m:List Nd}{t1 t2:Tk×Nat}
 (h1:zX b0 (zn (qM [40]) en (ts.drop i0)) ts t1 i1 b1) (h2:zX b1 (jx pe true ks en (ts.drop i1)) ts l i2 b2) (h3:zX b2 (jY pe 501 en (ts.drop i2)) ts m i3 b3) (h4:zX b3 (zn (qM [41]) en (ts.drop i3)) ts t2 i4 b4):
 zX b0 (qI pe op en (ts.drop i0)) ts (l++m) i4 b4:=by
 unfold qI;rw[hin];exact h1.bind (f:=λ_=>zt (jx pe true ks) λl=>zt (jY pe 501) λm=>zt (zn (qM [41])) λ_=>qT (l++m)) (h2.bind (h3.bind (h4.map (λ_=>l++m))))
theorem Vh{d i:Nat}{o:List UInt8}(hi:i<ts.length)(hk:ts[i].1.kind=0)(hs:ts[i].1.s=o)(hr:Zy o=true)(hin:0<(zr o).1.length):zC (d+1) en (ts.drop i)=zt (qI (zC d) o) (λl=>qT (.mk o [] 0 ts[i].2 l)) en (ts.drop (i+1)):=by
 show zt (zn j6) _ en (ts.drop i)=_;have hb:j6 ts[i].1=true:=by unfold j6;rw[hs,hk];simp[hin]
 have hn:jl ts[i].1=false:=by unfold jl;rw[hs,hr];simp
 rw[List.drop_eq_getElem_cons hi];simp only[zt,zn];rw[if_pos hb];simp only;rw[if_neg (by rw[hn];decide)];simp only[zt,hs]
theorem zaN{d i:Nat}(h:∀hi:i<ts.length,ts[i].1.kind=0→(zr ts[i].1.s).1.length=0):zC (d+1) en (ts.drop i)=zt (zn jl) (λt=>qT (.mk j8 t.1.s 0 t.2 [])) en (ts.drop i):=by
 show zt (zn j6) _ en (ts.drop i)=_;by_cases hi:i<ts.length
 ·have hb:j6 ts[i].1=jl ts[i].1:=by
   unfold j6;by_cases hk:ts[i].1.kind=0
   ·rw[h hi hk];simp
   ·simp[jl,hk]
  rw[List.drop_eq_getElem_cons hi];simp only[zt,zn];rw[hb];by_cases hn:jl ts[i].1=true
  ·rw[if_pos hn]
   simp only;rw[if_pos hn]
  ·rw[if_neg hn]
 ·rw[List.drop_eq_nil_of_le (by omega)];rfl
end
section
open Go.ChangeShapes Go.WideShapes Go.ChangeAt Go.RowKit
theorem qk{f:FuncId}{args:Array Value}(w:World){R:Ending→World→Prop}(k:Calls Tryz.prog f args w R):Calls Tryz.prog f args w R:=k
def yB(ts:zo):Prop:=∀t ∈ ts,xw t.1
theorem jz{ts:zo}(hG:yB ts){c:UInt8}(hc:zP c=false)(en i:Nat):zn (yA [c]) en (ts.drop i)=zn (qM [c]) en (ts.drop i):=by
 by_cases hi:i<ts.length
 ·have hg:=hG _ (List.getElem_mem hi)
  have e:yA [c] ts[i].1=qM [c] ts[i].1:=by
   unfold yA qM;by_cases hk:ts[i].1.kind=0
   ·obtain⟨⟨c',r,e1,e2⟩,_⟩:=hg.word hk
    have :(ts[i].1.s== [c])=false:=by
     rw[e1,beq_eq_false_iff_ne];intro e;have :c'=c:=by simpa using(List.cons.inj e).1
     rw[this,hc]at e2;cases e2
    rw[this];simp
   ·have h0:(ts[i].1.kind==0)=false:=by rw[beq_eq_false_iff_ne];exact hk
    rw[h0];rfl
  rw[List.drop_eq_getElem_cons hi];simp only[zn,e]
 ·rw[List.drop_eq_nil_of_le (by omega)];rfl
theorem Y4{ts:zo}(hG:yB ts){i:Nat}{s:List UInt8}(hi:i<ts.length)(hs:∀c,s= [c]→xX c=false)(h:yA s ts[i].1=true):ts[i].1.kind=0∧ts[i].1.s=s:=by
 unfold yA at h;simp only[Bool.and_eq_true,Bool.or_eq_true,beq_iff_eq]at h;refine⟨?_,h.2⟩;rcases h.1 with e|e
 ·exact e
 ·obtain⟨c,e1,e2,_⟩:=(hG _ (List.getElem_mem hi)).sign e
  rw[h.2]at e1;rw[hs c e1]at e2;cases e2
structure yv (w0:World) (rb:Nat) (A:Option Addr) (C:Nat) (ts:zo) (i0 en:Nat) (q:Nat) (op:ByteArray) (at_:Int) (wr:World) (i':Nat) (bad':Int) (l:List Nd) (v:Value):Prop where
 st:qX w0 rb A C ts i0 en wr i' bad'
 hp:ze wr w0.heap.size 24 #[.string ⟨#[]⟩,.string ⟨#[]⟩,.int .i64 0,.int .i64 0,.slice none 0 0]
 hq:ze wr q 24 #[.string op,.string ⟨#[]⟩,.int .i64 0,.int .i64 at_,v]
 row:vl wr (q+1) l v
 lt:rb<w0.heap.size
 pq:w0.heap.size<q
section
variable {w0:World} {rb:Nat} {A:Option Addr} {C:Nat} {ts:zo} {i0 en q:Nat} {op:ByteArray} {at_:Int} {wr:World} {i':Nat} {bad':Int} {l:List Nd} {v:Value}
theorem yv.rst(h:yv w0 rb A C ts i0 en q op at_ wr i' bad' l v){w':World}{i2:Nat}{b2:Int}(s:qX wr rb A C ts i' en w' i2 b2):yv w0 rb A C ts i0 en q op at_ w' i2 b2 l v:=by
 have hk:=s.2.2.1;have hlt:=h.lt;have hpq:=h.pq;exact⟨h.st.trans s,(hk.block _ h.hp.lt (λe=>by cases e;omega)).trans h.hp,(hk.block _ h.hq.lt (λe=>by cases e;omega)).trans h.hq,h.row.kp hk (by omega),hlt,hpq⟩
theorem yv.alloc(h:yv w0 rb A C ts i0 en q op at_ wr i' bad' l v)(o:Obj):yv w0 rb A C ts i0 en q op at_ (wr.alloc o) i' bad' l v:=
 ⟨h.st.alloc o,h.hp.alloc o,h.hq.alloc o,h.row.kp (Kp.of (p:=rb) (zd wr o)) (by have:=h.lt;have:=h.pq;omega),h.lt,h.pq⟩
theorem yv.put(h:yv w0 rb A C ts i0 en q op at_ wr i' bad' l v){w6:World}{l':List Nd}{v6:Value}(hr:vl w6 (q+1) l' v6)(hb:Below (q+1) wr w6):yv w0 rb A C ts i0 en q op at_ (w6.setCell ⟨q,4,none⟩ v6) i' bad' l' v6:=by
 have hpq:=h.pq;have hlt:=h.lt;refine⟨(h.st.below hb (by omega) hlt).new (q:=⟨q,4,none⟩) (by show _≤q;omega) hlt _,(h.hp.below hb (by omega)).other (by show w0.heap.size≠q;omega) _,?_,hr.kp ((Kp.refl q w6).setP 4 v6) (by omega),hlt,hpq⟩;exact(h.hq.below hb (by omega)).putP 4 v6
theorem yv.at(h:yv w0 rb A C ts i0 en q op at_ wr i' bad' l v){bad k:Int}(h0:zF w0 rb A C ts i0 en bad k):∃k',zF wr rb A C ts i' en bad' k':=qX.at h0 h.st
end
theorem xt{w w1 w2:World}{rb:Nat}{A:Option Addr}{C:Nat}{ts:zo}{i en:Nat}{bad k:Int}{op:ByteArray}{at_:Int}(h:zF w rb A C ts i en bad k)(hb1:Below (w.alloc (.cells #[.string ⟨#[]⟩,.string ⟨#[]⟩,.int .i64 0,.int .i64 0,.slice none 0 0] 24)).heap.size (w.alloc (.cells #[.string ⟨#[]⟩,.string ⟨#[]⟩,.int .i64 0,.int .i64 0,.slice none 0 0] 24)) w1)(hb2:Below w1.heap.size w1 w2)(hi:i+1≤ts.length)(hlt:rb<w.heap.size):
 yv w rb A C ts i en w2.heap.size op at_ ((w2.setCell ⟨rb,1,none⟩ (.int .i64 ((i:Int)+1))).alloc (.cells #[.string op,.string ⟨#[]⟩,.int .i64 0,.int .i64 at_,.slice none 0 0] 24)) (i+1) bad [] (.slice none 0 0):=by
 have hN:=ze.new w 24 #[.string ⟨#[]⟩,.string ⟨#[]⟩,.int .i64 0,.int .i64 0,.slice none 0 0];have hb:Below w.heap.size w w2:=((zd w _).trans (hb1.mono (by simp))).trans (hb2.mono (by have:=hb1.size;simp at this;omega));have hN2:ze w2 w.heap.size 24 #[.string ⟨#[]⟩,.string ⟨#[]⟩,.int .i64 0,.int .i64 0,.slice none 0 0]:=(hN.below hb1 hN.lt).below hb2 (hN.below hb1 hN.lt).lt;have hr:ze w2 rb 61 _:=h.has.below hb hlt;have hsz:(w2.setCell ⟨rb,1,none⟩ (.int .i64 ((i:Int)+1))).heap.size=w2.heap.size:=by simp
 refine⟨⟨by omega,by omega,((Kp.of hb).setP 1 _).alloc _,k,?_⟩,(hN2.other (by show w.heap.size≠rb;omega) _).alloc _,ze.new_at hsz.symm,vl.nil _ _,hlt,hN2.lt⟩;exact(hr.putP 1 _).alloc _
theorem yv.drewN{w0:World}{rb:Nat}{A:Option Addr}{C:Nat}{ts:zo}{i0 en q:Nat}{op:ByteArray}{at_:Int}{wr:World}{i':Nat}{bad':Int}{l:List Nd}{v:Value}(h:yv w0 rb A C ts i0 en q op at_ wr i' bad' l v)(n:Nat):yv w0 rb A C ts i0 en q op at_ (wr.drewN n) i' bad' l v:=
 ⟨h.st.drewN n,h.hp.drewN n,h.hq.drewN n,h.row.kp ((Kp.refl rb wr).drewN n) (by have:=h.lt;have:=h.pq;omega),h.lt,h.pq⟩
theorem yv.step{w0:World}{rb:Nat}{A:Option Addr}{C:Nat}{ts:zo}{i0 en q:Nat}{op:ByteArray}{at_:Int}{wr:World}{i':Nat}{bad':Int}{l:List Nd}{v:Value}(h:yv w0 rb A C ts i0 en q op at_ wr i' bad' l v)(hi:i'<ts.length):yv w0 rb A C ts i0 en q op at_ (wr.setCell ⟨rb,1,none⟩ (.int .i64 ((i':Int)+1))) (i'+1) bad' l v:=by
 obtain⟨k',hH⟩:=h.st.2.2.2
 have hs:qX wr rb A C ts i' en (wr.setCell ⟨rb,1,none⟩ (.int .i64 ((i':Int)+1))) (i'+1) bad':=⟨by omega,by omega,(Kp.refl rb wr).setP 1 _,k',by have:=hH.putP 1 (.int .i64 ((i':Int)+1));simpa using this⟩
 exact h.rst hs
def K7(rb:Nat)(w:World):Nat:=match w.cell? ⟨rb,1,none⟩with
 |some (.int _ n)=>n.toNat
 |_=>0
theorem yv.pos{w0:World}{rb:Nat}{A:Option Addr}{C:Nat}{ts:zo}{i0 en q:Nat}{op:ByteArray}{at_:Int}{wr:World}{i':Nat}{bad':Int}{l:List Nd}{v:Value}(h:yv w0 rb A C ts i0 en q op at_ wr i' bad' l v):K7 rb wr=i':=by
 obtain⟨k',hH⟩:=h.st.2.2.2;have:=hH.cell 1;simp only[jg,jd,jf]at this;unfold K7;rw[this];simp
theorem QZ{ty:TypeId}(w:World)(base:Nat)(l:List Nd)(v:Value)(hrow:vl w base l v)(hbase:base≤w.heap.size)(hlen:l.length≤1000)(xs:List Nd)(us:List Value)(hx1:0<xs.length)(hx2:xs.length≤10)(hu:us.length=xs.length)(hus:∀u ∈ us,u.oneCell'=true)
 (hn:∀i (h:i<xs.length) (h':i<us.length),jB w (λg=>base≤g∧v.ownBlock≠some g) xs[i].l us[i]) (G:Nat) (hG:ze w G 24 (JW xs us).toArray):
 ∃v' w',(Builtin.append_ #[22,22] ty #[v,.slice (some ⟨G,0,none⟩) xs.length xs.length]).run Tryz.prog w= .ok v' w'∧vl w' base (l++xs) v'∧Below base w w'∧w.grownBy w' v.ownBlock:=by
 obtain⟨i0,hi,hz0,hz1,hz2⟩:=info_parts Tryz.infoNode;obtain⟨vs,e1,hown,hk⟩:=hrow
 have hlenN:∀(xs:List Nd) (us:List Value),us.length=xs.length→(JW xs us).length=xs.length*5:=by
  intro xs
  induction xs with
  |nil=>intro us _;rfl
  |cons a xs ih =>
   intro us h;cases us with
   |nil=>simp at h
   |cons u us=>rw[Vp,List.length_append,ih us (by simpa using h)];simp[zR];omega
 have hone:∀(xs:List Nd) (us:List Value),(∀u ∈ us,u.oneCell'=true)→∀u ∈ JW xs us,u.oneCell'=true:=by
  intro xs
  induction xs with
  |nil=>intro us _ u hu;simp[JW]at hu
  |cons a xs ih =>
   intro us h u hu;cases us with
   |nil=>simp[JW]at hu
   |cons b us =>
    rw[Vp,List.mem_append]at hu;rcases hu with hu|hu
    ·simp[zR]at hu
     rcases hu with rfl|rfl|rfl|rfl|rfl
     ·rfl
     ·rfl
     ·rfl
     ·rfl
     ·exact h _ (by simp)
    ·exact ih us (λu hu=>h u (by simp[hu])) u hu
 have hnews:∀j u,(JW xs us)[j]?=some u→w.cell? ((⟨G,0,none⟩:Addr).add j)=some u:=by
  intro j u hj;have:=hG.cell j;rw[show(⟨G,0,none⟩:Addr).add j=⟨G,j,none⟩ by simp[Addr.add];omega];rw[this]
  simpa using hj
 obtain⟨v',w',hr,h2,h3,h4⟩:=run_append_own (P:=Tryz.prog) w base 22 ty 24 i0 _ 5 72 Tryz.underlying22 hi hz0 hz1 hz2 rfl (by decide) v l.length (JW l vs) hown ⟨G,0,none⟩ xs.length xs.length (JW xs us) (hlenN xs us hu) hnews (hone xs us hus) (by unfold maxLen;omega) (by omega) hbase;have hwh:=Zo (P:=Tryz.prog) Tryz.underlying22 hi hz0 hz1 (by decide) hown (ad:=⟨G,0,none⟩) (m:=xs.length) (c:=xs.length) (news:=JW xs us) (hlenN xs us hu) hnews (hone xs us hus) (by unfold maxLen;omega) (by rw[hz2];omega) hx1 hr;refine⟨v',w',hr,?_,Z6 hown h3 hbase,h3⟩
 have keep:∀ {l':List Nd} {x:Value},jB w (λg=>base≤g∧v.ownBlock≠some g) l' x→jB w' (λg=>base≤g∧v'.ownBlock≠some g) l' x:=by
  intro l' x h
  have h5:jB w (λg=>(base≤g∧v.ownBlock≠some g)∧v'.ownBlock≠some g) l' x:=h.imp λg hg hlt=>⟨hg,by
   rcases hwh with e|e
   ·rw[e];exact hg.2
   ·rw[e];intro e';cases e';omega⟩
  exact(h5.keep (w':=w') λg o hg ho=>(h3.block g (Array.getElem?_eq_some_iff.1 ho).1 (λe=>hg.1.2 e.symm)).trans ho).mono λg hg=>⟨hg.1.1,hg.2⟩
 refine⟨vs++us,by simp[e1,hu],?_,?_⟩
 ·rw[JZ l xs vs _ e1,List.length_append]
  exact h2
 ·intro i h h'
  by_cases hi:i<l.length
  ·rw[List.getElem_append_left hi,List.getElem_append_left (by omega)]
   exact keep (hk i hi (by omega))
  ·rw[List.getElem_append_right (by omega),List.getElem_append_right (by omega)]
   have e:i-vs.length=i-l.length:=by omega
   simp only[e];simp only[List.length_append]at h;exact keep (hn _ (by omega) (by omega))
theorem zG{ops:Array Oper}{rest:List Oper}{o:Oper}{a:Act}{w:World}{Q:Exit→Act→World→Prop}(hgd:o.guard=none)(s x:Operand)
 (ho:o.op= .call { callee:= .builtin .append,args:=#[s,x],argTypes:=#[22,22] }) (base:Nat) (l:List Nd) (v:Value) (hs:a.eval s=v) (hrow:vl w base l v) (hbase:base≤w.heap.size) (hlen:l.length≤1000)
 (xs:List Nd) (us:List Value) (hx1:0<xs.length) (hx2:xs.length≤10) (hu:us.length=xs.length) (hus:∀u ∈ us,u.oneCell'=true)
 (hn:∀i (h:i<xs.length) (h':i<us.length),jB w (λg=>base≤g∧v.ownBlock≠some g) xs[i].l us[i]) (G:Nat) (hx:a.eval x= .slice (some ⟨G,0,none⟩) xs.length xs.length) (hG:ze w G 24 (JW xs us).toArray)
 (L:Nat) (hL:l.length+xs.length=L) (h:∀A' C' w',vl w' base (l++xs) (.slice A' L C')→Below base w w'→wpList Tryz.prog ops Q rest (a.put o.dst (.slice A' L C')) w'):wpList Tryz.prog ops Q (o::rest) a w:=by
 obtain⟨v',w',hr,h2,h3,h4⟩:=QZ (ty:=o.type) w base l v hrow hbase hlen xs us hx1 hx2 hu hus hn G hG;obtain⟨A',C',e⟩:=h2.slice;rw[List.length_append,hL]at e;refine wpList_plain hgd λK hK=>?_
 unfold Oper.wp execOp;simp only[ho,resolve,invoke,builtin,Sem.run_bind,Sem.run_pure,Result.andThen_ok,List.map_toArray,List.map_cons,List.map_nil,hs,hx,hr];subst e;exact hK _ _ (h A' C' w' h2 h3)
theorem GX{w:World}{P:Nat→Prop}{x:Nd}{u:Value}(h:jB w P x.l u):∀i (h:i< [x].length) (h':i< [u].length),jB w P [x][i].l [u][i]:=by
 intro i hi hi';have :i=0:=by simp at hi;omega
 subst this;exact h
theorem nd2{w:World}{P:Nat→Prop}{x y:Nd}{u v:Value}(h:jB w P x.l u)(k:jB w P y.l v):∀i (h:i< [x,y].length) (h':i< [u,v].length),jB w P [x,y][i].l [u,v][i]:=by
 intro i hi hi';have :i=0∨i=1:=by simp at hi;omega
 rcases this with rfl|rfl
 ·exact h
 ·exact k
theorem Q7(A:Option Addr)(L C:Nat):∀u ∈ [Value.slice A L C],u.oneCell'=true:=by
 intro u hu;simp at hu;subst hu;rfl
theorem zbm(A:Option Addr)(L C:Nat)(A':Option Addr)(L' C':Nat):∀u ∈ [Value.slice A L C,Value.slice A' L' C'],u.oneCell'=true:=by
 intro u hu;simp at hu;rcases hu with rfl|rfl<;>rfl
theorem vl.apart{w w':World}{base:Nat}{l l':List Nd}{v x:Value}(row:vl w base l v)(hx:jB w' (λg=>w.heap.size≤g) l' x)(hb:base≤w.heap.size):jB w' (λg=>base≤g∧v.ownBlock≠some g) l' x:=
 hx.mono λg hg=>⟨by omega,λe=>by have:=row.lt e;omega⟩
end
section
open Go.ChangeShapes Go.WideShapes Go.ChangeAt Go.RowKit
theorem kL{w:World}{rb:Nat}{A:Option Addr}{C:Nat}{ts:zo}{i en:Nat}{k:Int}(h:zF w rb A C ts i en 0 k)(hG:yB ts)(d N:Nat)(hN:N≤12)(hi:i<ts.length)(hk:ts[i].1.kind=0)(hs:ts[i].1.s=jh)
 (hx:∀(w:World) (i:Nat) (bad k:Int),zF w rb A C ts i en bad k→Calls Tryz.prog 48 #[.pointer (some ⟨rb,0,none⟩),.int .i64 ((N:Int)+1)] w (qj w rb A C ts i en bad (zC d))):
 Calls Tryz.prog 48 #[.pointer (some ⟨rb,0,none⟩),.int .i64 (N:Nat)] w (qj w rb A C ts i en 0 (zC (d+1))):=by
 have hpx:=Vh (d:=d) (en:=en) hi hk hs (by decide) (by decide);have hR:=h;have hlt:=h.has.lt;have hf:=h.few
 have hop:∀W k,zF W rb A C ts i en 0 k→Calls Tryz.prog 77 #[.pointer (some ⟨rb,0,none⟩)] W λe w'=>e= .returned (.string ⟨#[108,105,110,101,97,114]⟩)∧Below W.heap.size W w':=by
  intro W k h;refine(Qb h).mono ?_;rintro e w' ⟨rfl,hb⟩;refine⟨?_,hb⟩
  have :vj ZC (vr 0 ts i)=jh:=by
   have hb:∀s,vr 0 ts i s=(s==jh):=by
    intro s;unfold vr;rw[qu hi];unfold yA;rw[hk,hs];simp only[decide_true,Bool.true_and,beq_self_eq_true,Bool.true_or];rw[Bool.eq_iff_iff];simp only[beq_iff_eq];exact eq_comm
   rw[show vr 0 ts i=λs=>s==jh from funext hb];decide
  rw[this];rfl
 have hpl:∀W k,zF W rb A C ts i en 0 k→Calls Tryz.prog 42 #[.pointer (some ⟨rb,0,none⟩)] W λe w'=>e= .returned (.int .i64 (ts[i].2:Nat))∧Below W.heap.size W w':=by
  intro W k h;refine(jv h).mono ?_;rintro e w' ⟨rfl,q,rfl⟩;rw[jL hi];exact⟨rfl,jG (Below.refl _ _) _⟩
 have h0:=h.kp (zd w (.cells #[.string ⟨#[]⟩,.string ⟨#[]⟩,.int .i64 0,.int .i64 0,.slice none 0 0] 24));have hN0:=ze.new w 24 #[.string ⟨#[]⟩,.string ⟨#[]⟩,.int .i64 0,.int .i64 0,.slice none 0 0];rw[show(zC (d+1))=zC (d+1)from rfl];have fin:∀(e:Ending) (w':World),qj w rb A C ts i en 0 (λ_ _=>zC (d+1) en (ts.drop i)) e w'→qj w rb A C ts i en 0 (zC (d+1)) e w':=λe w' h=>h
 rw[hpx]at fin;generalize ts[i].2=at_ at hpl fin;clear hpx hs hk;have hi1:i+1≤ts.length:=by omega
 have hi5:(i:Int)≤500:=by omega
 go_enter Tryz.func48,Tryz.ntmps48
 go_wp2_with (first
  |((go_at_call 77)
    refine(hop _ _ h0).mono ?_;rintro e w1 ⟨rfl,hb1⟩;have h1:=h0.kp hb1;have c1:=h1.has.cell 3;have l1:=h1.has.lt;(simp only[jg,jd,jf]at c1))
  |((go_at_call 42)
    refine(hpl _ _ h1).mono ?_;rintro e w2 ⟨rfl,hb2⟩;have h2:=h1.kp hb2;have c2:=h2.has.cell 1;have d2:=h2.has.free 1;have l2:=h2.has.lt;simp only[jg,jd,jf]at c2;have N2:=(hN0.below hb1 hN0.lt).below hb2 (hN0.below hb1 hN0.lt).lt;have lp2:=N2.lt;have E3:yv w rb A C ts i en w2.heap.size ⟨#[108,105,110,101,97,114]⟩ (at_:Nat) ((w2.setCell ⟨rb,1,none⟩ (.int .i64 ((i:Int)+1))).alloc (.cells #[.string ⟨#[108,105,110,101,97,114]⟩,.string ⟨#[]⟩,.int .i64 0,.int .i64 (at_:Nat),.slice none 0 0] 24)) (i+1) 0 [] (.slice none 0 0):=xt hR hb1 hb2 hi1 hlt;have pq:=E3.pq;(obtain⟨k3,h3⟩:=E3.at hR))
  |((go_at_call 47)
    refine qk ((w2.setCell ⟨rb,1,none⟩ (.int .i64 ((i:Int)+1))).alloc (.cells #[.string ⟨#[108,105,110,101,97,114]⟩,.string ⟨#[]⟩,.int .i64 0,.int .i64 (at_:Nat),.slice none 0 0] 24)) ?_;refine(qC h3 [40]).mono ?_;rintro e w4 ⟨rfl,i4,b4,s4,t4,T4⟩;rw[jz hG (by decide)]at T4;have E4:=E3.rst s4;obtain⟨k4,h4⟩:=qX.at h3 s4;have z4:=s4.2.2.1.size;have q4:=E4.hq.cell 4;have r4:=E4.hq.lt;(have f4:=E4.hq.free 4))
  |((go_at_call 48)
    refine qk (w4) ?_;refine(hx _ _ _ _ h4).mono ?_;rintro e w5 ⟨i5,b5,x5,A5,C5,rfl,N5,s5,T5,l5⟩;have E5:=E4.rst s5;obtain⟨k5,h5⟩:=qX.at h4 s5;have z5:=s5.2.2.1.size;have q5:=E5.hq.cell 4;have r5:=E5.hq.lt;have f5:=E5.hq.free 4;simp only[zR];have E5a:=(E5.alloc (.cells #[.string (bs x5.op),.string (bs x5.s),.int .i64 x5.n,.int .i64 x5.a,.slice A5 x5.l.length C5] 24)).alloc (.cells #[.string (bs x5.op),.string (bs x5.s),.int .i64 x5.n,.int .i64 x5.a,.slice A5 x5.l.length C5] 24);(have N5a:=(E4.row.apart N5 (by omega)).grow (((Below.refl _ w5).alloc (Nat.le_refl _) (.cells #[.string (bs x5.op),.string (bs x5.s),.int .i64 x5.n,.int .i64 x5.a,.slice A5 x5.l.length C5] 24)).alloc (by simp) (.cells #[.string (bs x5.op),.string (bs x5.s),.int .i64 x5.n,.int .i64 x5.a,.slice A5 x5.l.length C5] 24))))
  |((refine zf 58 rfl ?_)
    refine zG rfl _ _ rfl (w2.heap.size+1) [] _ rfl E5a.row (by simp;omega) (by decide) [x5] [.slice A5 x5.l.length C5] (by simp) (by simp) rfl (Q7 _ _ _) (GX N5a) (w5.heap.size+1) rfl (ze.new_at (by simp)) 1 rfl ?_;intro A6 C6 w6 R6 B6;have E6:=E5a.put R6 B6;have u6:=(E5a.hq.below B6 (by omega)).cell 4;have v6:=(E5a.hq.below B6 (by omega)).free 4;have y6:=(E5a.hq.below B6 (by omega)).lt;(obtain⟨k6,h6⟩:=E6.at hR))
  |((go_at_call 47)
    refine qk (w6.setCell ⟨w2.heap.size,4,none⟩ (.slice A6 1 C6)) ?_;refine(qC h6 [44]).mono ?_;rintro e w7 ⟨rfl,i7,b7,s7,t7,T7⟩;rw[jz hG (by decide)]at T7;have E7:=E6.rst s7;obtain⟨k7,h7⟩:=qX.at h6 s7;have z7:=s7.2.2.1.size;have q7:=E7.hq.cell 4;have r7:=E7.hq.lt;(have f7:=E7.hq.free 4))
  |((go_at_call 78)
    refine qk (w7) ?_;refine(Jd h7 (zC d)).mono ?_;rintro e w8 ⟨i8,b8,x8,A8,C8,rfl,N8,s8,T8,l8⟩;have E8:=E7.rst s8;obtain⟨k8,h8⟩:=qX.at h7 s8;have z8:=s8.2.2.1.size;have q8:=E8.hq.cell 4;have r8:=E8.hq.lt;have f8:=E8.hq.free 4;simp only[zR];have E8a:=E8.alloc (.cells #[.string (bs x8.op),.string (bs x8.s),.int .i64 x8.n,.int .i64 x8.a,.slice A8 x8.l.length C8] 24);obtain⟨k8a,h8a⟩:=E8a.at hR;have O8:=ze.new w8 24 #[.string (bs x8.op),.string (bs x8.s),.int .i64 x8.n,.int .i64 x8.a,.slice A8 x8.l.length C8];(have N8a:=(E7.row.apart N8 (by omega))))
  |((go_at_call 47)
    refine qk (w8.alloc (.cells #[.string (bs x8.op),.string (bs x8.s),.int .i64 x8.n,.int .i64 x8.a,.slice A8 x8.l.length C8] 24)) ?_;refine(qC h8a [44]).mono ?_;rintro e w9 ⟨rfl,i9,b9,s9,t9,T9⟩;rw[jz hG (by decide)]at T9;have E9:=E8a.rst s9;obtain⟨k9,h9⟩:=qX.at h8a s9;have z9:=s9.2.2.1.size;have q9:=E9.hq.cell 4;have r9:=E9.hq.lt;have f9:=E9.hq.free 4;(have O9:=O8.kp s9.2.2.1 (by omega)))
  |((go_at_call 78)
    refine qk (w9) ?_;refine(Jd h9 (zC d)).mono ?_;rintro e w10 ⟨i10,b10,x10,A10,C10,rfl,N10,s10,T10,l10⟩;have E10:=E9.rst s10;obtain⟨k10,h10⟩:=qX.at h9 s10;have z10:=s10.2.2.1.size;have q10:=E10.hq.cell 4;have r10:=E10.hq.lt;have f10:=E10.hq.free 4;have O10:=O9.kp s10.2.2.1 (by omega);simp only[zR];have cc0:=O10.cell 0;have cc1:=O10.cell 1;have cc2:=O10.cell 2;have cc3:=O10.cell 3;have cc4:=O10.cell 4;have lo10:=O10.lt;have E10a:=(E10.alloc (.cells #[.string (bs x10.op),.string (bs x10.s),.int .i64 x10.n,.int .i64 x10.a,.slice A10 x10.l.length C10] 24)).alloc (.cells #[.string (bs x8.op),.string (bs x8.s),.int .i64 x8.n,.int .i64 x8.a,.slice A8 x8.l.length C8,.string (bs x10.op),.string (bs x10.s),.int .i64 x10.n,.int .i64 x10.a,.slice A10 x10.l.length C10] 24);have N10a:=(E9.row.apart N10 (by omega)).grow (((Below.refl _ w10).alloc (Nat.le_refl _) (.cells #[.string (bs x10.op),.string (bs x10.s),.int .i64 x10.n,.int .i64 x10.a,.slice A10 x10.l.length C10] 24)).alloc (by simp) (.cells #[.string (bs x8.op),.string (bs x8.s),.int .i64 x8.n,.int .i64 x8.a,.slice A8 x8.l.length C8,.string (bs x10.op),.string (bs x10.s),.int .i64 x10.n,.int .i64 x10.a,.slice A10 x10.l.length C10] 24));(have N8b:=(N8a.kp (((Kp.of (zd w8 (.cells #[.string (bs x8.op),.string (bs x8.s),.int .i64 x8.n,.int .i64 x8.a,.slice A8 x8.l.length C8] 24))).trans s9.2.2.1).trans s10.2.2.1) (λg hg=>by omega)).grow (((Below.refl _ w10).alloc (Nat.le_refl _) (.cells #[.string (bs x10.op),.string (bs x10.s),.int .i64 x10.n,.int .i64 x10.a,.slice A10 x10.l.length C10] 24)).alloc (by simp) (.cells #[.string (bs x8.op),.string (bs x8.s),.int .i64 x8.n,.int .i64 x8.a,.slice A8 x8.l.length C8,.string (bs x10.op),.string (bs x10.s),.int .i64 x10.n,.int .i64 x10.a,.slice A10 x10.l.length C10] 24))))
  |((refine zf 98 rfl ?_)
    refine zG rfl _ _ rfl (w2.heap.size+1) [x5] _ rfl E10a.row (by simp;omega) (by simp) [x8,x10] [.slice A8 x8.l.length C8,.slice A10 x10.l.length C10] (by simp) (by simp) rfl (zbm _ _ _ _ _ _) (nd2 N8b N10a) (w10.heap.size+1) rfl (ze.new_at (by simp)) 3 rfl ?_;intro A11 C11 w11 R11 B11;have E11:=E10a.put R11 B11;have u11:=(E10a.hq.below B11 (by omega)).cell 4;have v11:=(E10a.hq.below B11 (by omega)).free 4;have y11:=(E10a.hq.below B11 (by omega)).lt;(obtain⟨k11,h11⟩:=E11.at hR))
  |((go_at_call 47)
    refine qk (w11.setCell ⟨w2.heap.size,4,none⟩ (.slice A11 3 C11)) ?_;refine(qC h11 [41]).mono ?_;rintro e w12 ⟨rfl,i12,b12,s12,t12,T12⟩;rw[jz hG (by decide)]at T12;have E12:=E11.rst s12;obtain⟨k12,h12⟩:=qX.at h11 s12;have z12:=s12.2.2.1.size;have q12:=E12.hq.cell 4;have r12:=E12.hq.lt;have f12:=E12.hq.free 4;have p12:=E12.hp.lt;have ca0:=E12.hp.cell 0;have ca1:=E12.hp.cell 1;have ca2:=E12.hp.cell 2;have ca3:=E12.hp.cell 3;have ca4:=E12.hp.cell 4;have fa0:=E12.hp.free 0;have fa1:=E12.hp.free 1;have fa2:=E12.hp.free 2;have fa3:=E12.hp.free 3;have fa4:=E12.hp.free 4;have cb0:=E12.hq.cell 0;have cb1:=E12.hq.cell 1;have cb2:=E12.hq.cell 2;have cb3:=E12.hq.cell 3;(have cb4:=E12.hq.cell 4))
  )
 refine zY rfl rfl (E12.hp.set5 _ _ _ _ _) rfl (fin _ _ ?_);refine⟨i12,b12,.mk jh [] 0 (at_:Nat) [x5,x8,x10],A11,C11,rfl,?_,qX.set5 E12.st (Nat.le_refl _) hlt _ _ _ _ _,(ZD rfl T4 (Ga (ks:= .nu) (kt:= .nu) T5 T7 T8 T9 T10) T12).map (λl=>Nd.mk jh [] 0 (at_:Nat) l),Nat.le_of_ble_eq_true rfl⟩;exact(E12.row.done.mono λg hg=>(by omega:w.heap.size≤g∧g≠w.heap.size)).set5 (λg hg=>hg.2) _ _ _ _ _ |>.mono λg hg=>hg.1
end
end Go.Proofs.YtebcfkigbbolaaaGreatDoor
