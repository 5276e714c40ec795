import Derived.Test.YteaddcdpgcgggaaGreatDoorJoint08
import Derived.Test.YteaddcdpgcgggaaGreatDoorJoint03
import Derived.Ground.SlbCloneProg
import Derived.Shelf.Bytes.SlClone
import Derived.Shelf.Bytes.SlEqualAll
import Derived.Shelf.Bytes.Small
import Derived.Test.YteaddcdpgcgggaaGreatDoorProg
import Derived.Test.YteaddcdpgcgggaaGreatDoorJoint01
namespace Go.Proofs.YteaddcdpgcgggaaGreatDoor
set_option linter.unusedVariables false
set_option maxRecDepth 100000
set_option maxHeartbeats 40000000
section
open Go.ChangeShapes Go.WideShapes Go.ChangeAt Go.RowKit
theorem qr{w w1:World}{o:Obj}(h:Below (w.alloc o).heap.size (w.alloc o) w1):Below w.heap.size w w1:=(zl w o).trans (h.mono (by simp))
def Zd(n:Nd):Bool:=n.op==vK&&jq n.s&&decide (n.n=0)&&decide (n.l.length=0)
theorem xv(n:Nd)(A:Option Addr)(L C:Nat)(w:World)(hm:n.s.length<maxLen)(hlL:L=n.l.length)(hL:L≤9223372036854775807):Calls Tryz.prog 67 #[.agg (qD n (.slice A L C)),.string ⟨#[110,117,109]⟩] w (j1 w (zP (λ_=>false) .nu n)):=by
 have hsz:=zJ n.s;have ho:=zp n.op;have hs:=zp n.s
 obtain⟨B,hB⟩:∃B,B=zP (λ_=>false) .nu n:=⟨_,rfl⟩
 rw[←hB];replace hB:B=(n.op==vu&&n.s== []&&j8 n.n&&decide (n.l.length=0)):=hB;rw[←hlL]at hB;unfold qD;clear hlL hsz hm;generalize n.n=M at *;generalize n.a=at_ at *
 cases e1:(n.op==vu)
 ·have e1':(n.op== [110,117,109])=false:=e1
  obtain rfl:B=false:=by rw[hB,e1];rfl
  clear e1 hB;go_enter Tryz.func67,Tryz.ntmps67
  go_wp2
  go_ret
  exact⟨rfl,zl _ _⟩
 ·have e1':(n.op== [110,117,109])=true:=e1
  rw[e1]at hB;clear e1;by_cases hL0:L=0
  ·subst hL0
   by_cases hS:n.s= []
   ·have hS':(n.s== [])=true:=by simpa using hS
    rcases(by omega:M<0∨(0≤M∧999999999<M)∨(0≤M∧M≤999999999))with h1|⟨h1,h2⟩|⟨h1,h2⟩
    ·obtain rfl:B=false:=by rw[hB,show j8 M=false by unfold j8;simp;omega];simp
     clear hB hS;go_enter Tryz.func67,Tryz.ntmps67
     go_wp2
     go_ret
     exact⟨rfl,zl _ _⟩
    ·obtain rfl:B=false:=by rw[hB,show j8 M=false by unfold j8;simp;omega];simp
     clear hB hS;have h3:=decide_eq_false (show ¬M≤999999999 by omega);go_enter Tryz.func67,Tryz.ntmps67
     go_wp2
     go_ret
     exact⟨rfl,zl _ _⟩
    ·obtain rfl:B=true:=by rw[hB,show j8 M=true by unfold j8;simp;omega,hS'];rfl
     clear hB hS;go_enter Tryz.func67,Tryz.ntmps67
     go_wp2
     go_ret
     exact⟨rfl,zl _ _⟩
   ·have hS':(n.s== [])=false:=by simpa using hS
    obtain rfl:B=false:=by rw[hB,hS'];simp
    clear hB hS;go_enter Tryz.func67,Tryz.ntmps67
    go_wp2
    go_ret
    exact⟨rfl,zl _ _⟩
  ·have hL1:(0:Int)<(L:Int):=by omega
   obtain rfl:B=false:=by rw[hB];simp[hL0]
   clear hB;go_enter Tryz.func67,Tryz.ntmps67
   go_wp2
   go_ret
   exact⟨rfl,zl _ _⟩
theorem Y6(n:Nd)(A:Option Addr)(L C:Nat)(w:World)(hm:n.s.length<maxLen)(hlL:L=n.l.length)(hL:L≤9223372036854775807):Calls Tryz.prog 67 #[.agg (qD n (.slice A L C)),.string ⟨#[104,101,120]⟩] w (j1 w (yt n)):=by
 have hsz:=zJ n.s;have ho:=zp n.op;have hs:=zp n.s;have hnm:=λW=>zck n.s W hm
 obtain⟨B,hB⟩:∃B,B=yt n:=⟨_,rfl⟩
 rw[←hB];replace hB:B=(n.op==QZ&&xg n.s&&decide (n.n=0)&&decide (n.l.length=0)):=hB;rw[←hlL]at hB;unfold qD;clear hlL hsz hm;generalize xg n.s=H at *;generalize n.n=M at *;generalize n.a=at_ at *
 cases e1:(n.op==QZ)
 ·have e1':(n.op== [104,101,120])=false:=e1
  obtain rfl:B=false:=by rw[hB,e1];rfl
  clear e1 hB;go_enter Tryz.func67,Tryz.ntmps67
  go_wp2
  go_ret
  exact⟨rfl,zl _ _⟩
 ·have e1':(n.op== [104,101,120])=true:=e1
  rw[e1]at hB;clear e1;by_cases hL0:L=0
  ·subst hL0
   by_cases hM:M=0
   ·subst hM
    obtain rfl:B=H:=by rw[hB];simp
    clear hB;go_enter Tryz.func67,Tryz.ntmps67
    go_wp2_with (first
     |((go_at_call 86)
       refine(hnm _).mono ?_;rintro e w1 ⟨rfl,hb1⟩;have hN1:=(zm.new w _ _).below hb1 (by simp);(have n2:=hN1.cell 2)))
    go_ret
    exact⟨rfl,qr hb1⟩
   ·have hMb:(M==0)=false:=by simpa using hM
    obtain rfl:B=false:=by rw[hB];simp[hM]
    clear hB;go_enter Tryz.func67,Tryz.ntmps67
    go_wp2_with (first
     |((go_at_call 86)
       refine(hnm _).mono ?_;rintro e w1 ⟨rfl,hb1⟩;have hN1:=(zm.new w _ _).below hb1 (by simp);(have n2:=hN1.cell 2)))
    go_ret
    exact⟨rfl,qr hb1⟩
  ·have hL1:(0:Int)<(L:Int):=by omega
   obtain rfl:B=false:=by rw[hB];simp[hL0]
   clear hB;go_enter Tryz.func67,Tryz.ntmps67
   go_wp2
   go_ret
   exact⟨rfl,zl _ _⟩
theorem yG(n:Nd)(A:Option Addr)(L C:Nat)(w:World)(hm:n.s.length<maxLen)(hlL:L=n.l.length)(hL:L≤9223372036854775807):Calls Tryz.prog 67 #[.agg (qD n (.slice A L C)),.string ⟨#[110,97,109,101]⟩] w (j1 w (zP (λ_=>false) .na n)):=by
 have hsz:=zJ n.s;have ho:=zp n.op;have hs:=zp n.s;have hnm:=λW=>xy n.s W (by omega)
 obtain⟨B,hB⟩:∃B,B=zP (λ_=>false) .na n:=⟨_,rfl⟩
 rw[←hB];replace hB:B=(n.op==jM&&jq n.s&&decide (n.n=0)&&decide (n.l.length=0)):=hB;rw[←hlL]at hB;unfold qD;clear hlL hsz hm;generalize jq n.s=H at *;generalize n.n=M at *;generalize n.a=at_ at *
 cases e1:(n.op==jM)
 ·have e1':(n.op== [110,97,109,101])=false:=e1
  obtain rfl:B=false:=by rw[hB,e1];rfl
  clear e1 hB;go_enter Tryz.func67,Tryz.ntmps67
  go_wp2
  go_ret
  exact⟨rfl,zl _ _⟩
 ·have e1':(n.op== [110,97,109,101])=true:=e1
  rw[e1]at hB;clear e1;by_cases hL0:L=0
  ·subst hL0
   by_cases hM:M=0
   ·subst hM
    obtain rfl:B=H:=by rw[hB];simp
    clear hB;go_enter Tryz.func67,Tryz.ntmps67
    go_wp2_with (first
     |((go_at_call 66)
       refine(hnm _).mono ?_;rintro e w1 ⟨rfl,hb1⟩;have hN1:=(zm.new w _ _).below hb1 (by simp);(have n2:=hN1.cell 2)))
    go_ret
    exact⟨rfl,qr hb1⟩
   ·have hMb:(M==0)=false:=by simpa using hM
    obtain rfl:B=false:=by rw[hB];simp[hM]
    clear hB;go_enter Tryz.func67,Tryz.ntmps67
    go_wp2_with (first
     |((go_at_call 66)
       refine(hnm _).mono ?_;rintro e w1 ⟨rfl,hb1⟩;have hN1:=(zm.new w _ _).below hb1 (by simp);(have n2:=hN1.cell 2)))
    go_ret
    exact⟨rfl,qr hb1⟩
  ·have hL1:(0:Int)<(L:Int):=by omega
   obtain rfl:B=false:=by rw[hB];simp[hL0]
   clear hB;go_enter Tryz.func67,Tryz.ntmps67
   go_wp2
   go_ret
   exact⟨rfl,zl _ _⟩
theorem vV(n:Nd)(A:Option Addr)(L C:Nat)(w:World)(hm:n.s.length<maxLen)(hlL:L=n.l.length)(hL:L≤9223372036854775807):Calls Tryz.prog 67 #[.agg (qD n (.slice A L C)),.string ⟨#[117,115,101]⟩] w (j1 w (Zd n)):=by
 have hsz:=zJ n.s;have ho:=zp n.op;have hs:=zp n.s;have hnm:=λW=>xy n.s W (by omega)
 obtain⟨B,hB⟩:∃B,B=Zd n:=⟨_,rfl⟩
 rw[←hB];replace hB:B=(n.op==vK&&jq n.s&&decide (n.n=0)&&decide (n.l.length=0)):=hB;rw[←hlL]at hB;unfold qD;clear hlL hsz hm;generalize jq n.s=H at *;generalize n.n=M at *;generalize n.a=at_ at *
 cases e1:(n.op==vK)
 ·have e1':(n.op== [117,115,101])=false:=e1
  obtain rfl:B=false:=by rw[hB,e1];rfl
  clear e1 hB;go_enter Tryz.func67,Tryz.ntmps67
  go_wp2
  go_ret
  exact⟨rfl,zl _ _⟩
 ·have e1':(n.op== [117,115,101])=true:=e1
  rw[e1]at hB;clear e1;by_cases hL0:L=0
  ·subst hL0
   by_cases hM:M=0
   ·subst hM
    obtain rfl:B=H:=by rw[hB];simp
    clear hB;go_enter Tryz.func67,Tryz.ntmps67
    go_wp2_with (first
     |((go_at_call 66)
       refine(hnm _).mono ?_;rintro e w1 ⟨rfl,hb1⟩;have hN1:=(zm.new w _ _).below hb1 (by simp);(have n2:=hN1.cell 2)))
    go_ret
    exact⟨rfl,qr hb1⟩
   ·have hMb:(M==0)=false:=by simpa using hM
    obtain rfl:B=false:=by rw[hB];simp[hM]
    clear hB;go_enter Tryz.func67,Tryz.ntmps67
    go_wp2_with (first
     |((go_at_call 66)
       refine(hnm _).mono ?_;rintro e w1 ⟨rfl,hb1⟩;have hN1:=(zm.new w _ _).below hb1 (by simp);(have n2:=hN1.cell 2)))
    go_ret
    exact⟨rfl,qr hb1⟩
  ·have hL1:(0:Int)<(L:Int):=by omega
   obtain rfl:B=false:=by rw[hB];simp[hL0]
   clear hB;go_enter Tryz.func67,Tryz.ntmps67
   go_wp2
   go_ret
   exact⟨rfl,zl _ _⟩
def zF(l:List Nd)(k:Nat):Nd:=l.getD k (.mk [] [] 0 0 [])
theorem Jk{l:List Nd}{k:Nat}(h:k<l.length):zF l k=l[k]:=by
 unfold zF;rw[List.getD_eq_getElem?_getD,List.getElem?_eq_getElem h];rfl
def zO(n:Nd)(A:Option Addr)(C:Nat):Value:= .agg #[.string (bs n.op),.string (bs n.s),.int .i64 n.n,.int .i64 n.a,.slice A n.l.length C]
def yO(w:World)(g p:Nat)(n:Nd)(A:Option Addr)(C:Nat):Prop:=∀j,j<5→w.cell? ⟨g,p+j,none⟩=(qD n (.slice A n.l.length C))[j]?
theorem zC{o:Oper}{a:Act}(x:Operand)(ho:o.op= .load 24 x)(g p:Nat)(hx:a.eval x= .pointer (some ⟨g,p,none⟩)){n:Nd}{A:Option Addr}{C:Nat}(w:World)(h:yO w g p n A C):(execOp a.eval o).run Tryz.prog w= .ok (.value (zO n A C)) w:=by
 have q0:=h 0 (by decide);have q1:=h 1 (by decide);have q2:=h 2 (by decide);have q3:=h 3 (by decide);have q4:=h 4 (by decide);simp only[Nat.add_zero]at q0;simp only[qD]at q0 q1 q2 q3 q4;unfold execOp zO;simp only[ho,hx];go_simp
theorem zu{o:Oper}{a:Act}(x i:Operand)(ho:o.op= .indexAddr 22 x i)(g off k n cap:Nat)(hx:a.eval x= .slice (some ⟨g,off,none⟩) n cap)(hi:a.eval i= .int .i64 (k:Nat))(hk:k<n)(w:World):(execOp a.eval o).run Tryz.prog w= .ok (.value (.pointer (some ⟨g,off+k*5,none⟩))) w:=by
 unfold execOp;obtain⟨i0,hq,hz0,hz,hz2⟩:=info_parts Tryz.infoNode;simp only[ho,hx,hi];simp[Instr.indexAt,Instr.sureAddr,run_underlying Tryz.underlying22,asIntOf,sizeOf,typeInfo,hq,hz,Addr.add_mid,go_sem];intro h;omega
theorem yO.grow{w w':World}{g p B:Nat}{n:Nd}{A:Option Addr}{C:Nat}(h:yO w g p n A C)(hb:Below B w w')(hg:g<B):yO w' g p n A C:=λj hj=>(hb.cell (p:=⟨g,p+j,none⟩) hg).trans (h j hj)
theorem jg{w:World}{n:Nd}{A:Option Addr}{C:Nat}(h:jZ w n A C)(hpos:0<n.l.length):∃(g off:Nat) (Au:Nat→Option Addr) (Cu:Nat→Nat),A=some ⟨g,off,none⟩∧g<w.heap.size∧∀k,k<n.l.length→yO w g (off+k*5) (zF n.l k) (Au k) (Cu k)∧jZ w (zF n.l k) (Au k) (Cu k):=by
 obtain⟨g,off,_,e,hg,_⟩:=h.rd.get 0 hpos
 have each:∀k,∃(Av:Option Addr) (Cv:Nat),k<n.l.length→yO w g (off+k*5) (zF n.l k) Av Cv∧jZ w (zF n.l k) Av Cv:=by
  intro k;by_cases hk:k<n.l.length
  ·obtain⟨g',off',u,e',hg',hc,hr,hs,ho⟩:=h.rd.get k hk
   rw[e]at e';cases e';obtain⟨Av,Cv,rfl,_,_⟩:=hr.slice;refine⟨Av,Cv,λ_=>?_⟩;rw[Jk hk];exact⟨hc,hr,hs,ho⟩
  ·exact⟨none,0,λh=>absurd h hk⟩
 exact⟨g,off,λk=>(each k).choose,λk=>(each k).choose_spec.choose,e,hg,λk hk=>(each k).choose_spec.choose_spec hk⟩
end
section
open Go.ChangeShapes Go.WideShapes Go.ChangeAt Go.RowKit Go.MapKept
variable {E:Nat→Prop}
def KG(ps:List Pt):Ck:=⟨[],none,ps,none,false,0,[]⟩
def j6:List Nd→Nat
 | []=>0
 |x::l=>(if x.op=zn∨x.op=zq then 1 else 0)+j6 l
theorem Vn(l:List Nd)(x:Nd):∀d,disks d (l++ [x])=disks d l++(if x.op=zn then[⟨1,x.n.toNat,[],d+j6 l,0,0,[],[]⟩]else[]):=by
 induction l with
 |nil =>
  intro d;simp only[List.nil_append,disks,j6];by_cases h1:x.op=zn
  ·rw[if_pos h1,if_pos h1];rfl
  ·rw[if_neg h1,if_neg h1]
   by_cases h2:x.op=zq
   ·rw[if_pos h2]
   ·rw[if_neg h2]
 |cons y l ih =>
  intro d;simp only[List.cons_append,disks,j6];by_cases h1:y.op=zn
  ·simp only[if_pos h1,ih,List.cons_append,if_pos (show y.op=zn∨y.op=zq from .inl h1)]
   congr 2
   rw[show d+1+j6 l=d+(1+j6 l) by omega]
  ·rw[if_neg h1,if_neg h1]
   by_cases h2:y.op=zq
   ·rw[if_pos h2,if_pos h2,ih,if_pos (show y.op=zn∨y.op=zq from .inr h2)]
    rw[show d+1+j6 l=d+(1+j6 l) by omega]
   ·rw[if_neg h2,if_neg h2,ih,if_neg (show ¬(y.op=zn∨y.op=zq) by simp[h1,h2])]
    rw[Nat.zero_add]
theorem Xj(l:List Nd)(x:Nd):j6 (l++ [x])=j6 l+(if x.op=zn∨x.op=zq then 1 else 0):=by
 induction l with
 |nil=>simp[j6]
 |cons y l ih=>simp only[List.cons_append,j6,ih];omega
theorem gJ(l:List Nd):j6 l≤l.length:=by
 induction l with
 |nil=>exact Nat.le_refl _
 |cons y l ih=>simp only[j6,List.length_cons];split<;>omega
theorem kM(l:List Nd):∀d,(disks d l).length≤l.length:=by
 induction l with
 |nil=>intro d;exact Nat.le_refl _
 |cons y l ih =>
  intro d;simp only[disks]
  split
  ·simp;exact ih _
  ·split
   ·have:=ih (d+1);simp;omega
   ·have:=ih d;simp;omega
structure Q2 (w0 w:World) (l:List Nd) (A:Option Addr) (C:Nat):Prop where
 rd:Rd w0 l (.slice A l.length C)
 bel:Below w0.heap.size w0 w
theorem Q2.get{w0 w:World}{l:List Nd}{A:Option Addr}{C:Nat}(h:Q2 w0 w l A C){i:Nat}(hi:i<l.length):∃g off An Cn,A=some ⟨g,off,none⟩∧g<w.heap.size∧yO w g (off+i*5) l[i] An Cn∧jZ w0 l[i] An Cn:=by
 obtain⟨g,off,u,e,hg,hc,hr,hs,ho⟩:=h.rd.get i hi;obtain⟨An,Cn,rfl,_,_⟩:=hr.slice;exact⟨g,off,An,Cn,e,Nat.lt_of_lt_of_le hg h.bel.size,λj hj=>(h.bel.cell (p:=⟨g,off+i*5+j,none⟩) hg).trans (hc j hj),hr,hs,ho⟩
theorem jX.below{cb:Nat}{V V':CV}{w w':World}{c:Ck}(h:qq E w cb V c)(s:jX cb V w V' w'):Below (cb-1) w w':=s.only.below (by have:=h.has.lt;omega) λk hk=>by have:=(h.low hk).1;omega
theorem zbj{w0 w:World}{cb:Nat}{V:CV}{l:List Nd}{A:Option Addr}{C:Nat}(h:qq E w cb V (KG []))(ht:Q2 w0 w l A C)(hcb:w0.heap.size≤cb-1)(hl:l.length≤80000)(hn:∀x ∈ l,(x.op=zn→0≤x.n∧x.n≤999999999)):Calls Tryz.prog 35 #[.pointer (some ⟨cb,0,none⟩),.slice A l.length C] w λe w'=>e= .returned (.tuple #[])∧∃V',qq E w' cb V' (KG (disks 0 l))∧jX cb V w V' w':=by
 obtain⟨A',C',eAC,hlc,hcm⟩:=ht.rd.slice;cases eAC
 obtain⟨L,hL⟩:∃L,L=l.length:=⟨_,rfl⟩
 have HL:Hid (L=l.length):=hL;rw[←hL]at hlc hl ⊢;clear hL;go_enter Tryz.func35,Tryz.ntmps35
 go_wp2
 go_loopw [4,9] (λz4 z9 wr=>∃(i:Nat) (V':CV),z4= .int .i64 (j6 (l.take i):Nat)∧z9= .int .i64 (i:Nat)∧i≤L∧qq E wr cb V' (KG (disks 0 (l.take i)))∧jX cb V w V' wr) (λ_ z _=>L-(intOf z).toNat)
 case atStart=>exact⟨0,V,by simp[j6],rfl,Nat.zero_le _,by simpa [disks]using h,jX.refl _ _ _⟩
 case round =>
  obtain⟨i,V2,rfl,rfl,hi,H2,S2⟩:=hrel;by_cases hlt:i<L
  ·have hil:i<l.length:=by rw[←HL.out];exact hlt
   have B2:=S2.below h
   have T2:Q2 w0 wr l A C:=⟨ht.rd,ht.bel.trans (B2.mono hcb)⟩
   obtain⟨g,off,An,Cn,eA,hg,hat,hrn⟩:=T2.get hil;have hnl:=hn _ (List.getElem_mem hil)
   have HD:Hid (disks 0 (l.take (i+1))=disks 0 (l.take i)++(if l[i].op=zn then[⟨1,l[i].n.toNat,[],j6 (l.take i),0,0,[],[]⟩]else[])):=by
    rw[List.take_succ_eq_append_getElem hil,Vn,Nat.zero_add];exact rfl
   have HV:Hid (j6 (l.take (i+1))=j6 (l.take i)+(if l[i].op=zn∨l[i].op=zq then 1 else 0)):=by
    rw[List.take_succ_eq_append_getElem hil,Xj];exact rfl
   have hdl:=gJ (l.take i);have hpl:=kM (l.take i) 0;have hil2:(l.take i).length≤i:=by simp;omega
   generalize l[i]=n at *
   obtain⟨D,hD⟩:∃D,D=j6 (l.take i):=⟨_,rfl⟩
   obtain⟨ps,hps⟩:∃ps,ps=disks 0 (l.take i):=⟨_,rfl⟩
   rw[←hD]at HD HV hdl ⊢;rw[←hps]at HD H2 hpl;have hDb:(D:Int)≤80000:=by omega
   have hpsl:ps.length≤80000:=by omega
   have hint:(i:Int)<(L:Int):=by omega
   have hot:=zp n.op;have H3:=H2.alloc (.cells #[.string (bs n.op),.string (bs n.s),.int .i64 n.n,.int .i64 n.a,.slice An n.l.length Cn] 24);clear hD hps T2 hil;subst eA;by_cases hd:n.op=zn
   ·have f0:(n.op== [100,101,118,105,99,101])=true:=by rw[hd];decide
    have f1:(n.op== [106,111,117,114,110,97,108])=false:=by rw[hd];decide
    have hnn:=hnl hd
    obtain⟨M,hM⟩:∃M:Nat,n.n=(M:Nat):=⟨n.n.toNat,by omega⟩
    have e1:disks 0 (l.take (i+1))=ps++ [⟨1,M,[],D,0,0,[],[]⟩]:=by rw[HD.out,if_pos hd,hM,Int.toNat_natCast]
    have e2:j6 (l.take (i+1))=D+1:=by rw[HV.out,if_pos (.inl hd)]
    have HE1:Hid (disks 0 (l.take (i+1))=ps++ [⟨1,M,[],D,0,0,[],[]⟩]):=e1;have HE2:Hid (j6 (l.take (i+1))=D+1):=e2;have hadd:=Xu H3 ⟨1,M,[],D,0,0,[],[]⟩ none 0 none 0 none 0 ⟨⟨none,0,rfl,Nat.le_refl _,by unfold maxLen;omega,.inl rfl⟩,⟨none,0,rfl,Nat.le_refl _,by unfold maxLen;omega,.inl rfl⟩,⟨none,0,rfl,Nat.le_refl _,by unfold maxLen;omega,.inl rfl⟩⟩ (λk hk=>by cases hk) (by simp) (by simp) (by simp) (by show ps.length≤90000;omega);rw[hM]at hadd;simp only[List.length_nil]at hadd;have hat2:yO wr g (off+i*5) n An Cn:=hat;have hNM:Hid (n.n=(M:Nat)):=hM;clear e1 e2 hd hnl hnn HD HV hM
    go_wp2_with (first
    |((refine zi 11 rfl ?_)
      (refine zd (some 11) _ rfl (by rfl) (zu _ _ rfl g off i L C rfl rfl hlt wr) ?_))
    |((refine zi 12 rfl ?_)
      refine zd (some 12) _ rfl (by rfl) (zC _ rfl g (off+i*5) rfl wr hat) ?_;(unfold zO))
    |((go_at_call 60)
      rw[hNM.out];refine hadd.mono ?_;(rintro e w5 ⟨rfl,V5,H5,S5⟩)))
    go_roundw
    case rel=>exact⟨i+1,V5,by rw[HE2.out];go_num,by go_num,by omega,by rw[HE1.out];exact H5,S2.trans ((jX.of (zl wr _)).trans S5)⟩
    case measure=>simp[intOf];omega
   ·have f0:(n.op== [100,101,118,105,99,101])=false:=by rw[beq_eq_false_iff_ne];exact hd
    by_cases hj:n.op=zq
    ·have f1:(n.op== [106,111,117,114,110,97,108])=true:=by rw[hj];decide
     have e1:disks 0 (l.take (i+1))=ps:=by rw[HD.out,if_neg hd,List.append_nil]
     have e2:j6 (l.take (i+1))=D+1:=by rw[HV.out,if_pos (.inr hj)]
     have HE1:Hid (disks 0 (l.take (i+1))=ps):=e1;have HE2:Hid (j6 (l.take (i+1))=D+1):=e2;clear e1 e2 hd hj hnl HD HV
     go_wp2_with (first
     |((refine zi 11 rfl ?_)
       (refine zd (some 11) _ rfl (by rfl) (zu _ _ rfl g off i L C rfl rfl hlt wr) ?_))
     |((refine zi 12 rfl ?_)
       refine zd (some 12) _ rfl (by rfl) (zC _ rfl g (off+i*5) rfl wr hat) ?_;(unfold zO))
      )
     go_roundw
     case rel=>exact⟨i+1,V2,by rw[HE2.out];go_num,by go_num,by omega,by rw[HE1.out];exact H3,S2.trans (jX.of (zl wr _))⟩
     case measure=>simp[intOf];omega
    ·have f1:(n.op== [106,111,117,114,110,97,108])=false:=by rw[beq_eq_false_iff_ne];exact hj
     have e1:disks 0 (l.take (i+1))=ps:=by rw[HD.out,if_neg hd,List.append_nil]
     have e2:j6 (l.take (i+1))=D:=by rw[HV.out,if_neg (by simp[hd,hj])];rfl
     have HE1:Hid (disks 0 (l.take (i+1))=ps):=e1;have HE2:Hid (j6 (l.take (i+1))=D):=e2;clear e1 e2 hd hj hnl HD HV
     go_wp2_with (first
     |((refine zi 11 rfl ?_)
       (refine zd (some 11) _ rfl (by rfl) (zu _ _ rfl g off i L C rfl rfl hlt wr) ?_))
     |((refine zi 12 rfl ?_)
       refine zd (some 12) _ rfl (by rfl) (zC _ rfl g (off+i*5) rfl wr hat) ?_;(unfold zO))
      )
     go_roundw
     case rel=>exact⟨i+1,V2,by rw[HE2.out],by go_num,by omega,by rw[HE1.out];exact H3,S2.trans (jX.of (zl wr _))⟩
     case measure=>simp[intOf];omega
  ·obtain rfl:i=L:=by omega
   have e1:l.take i=l:=by rw[HL.out,List.take_length]
   rw[e1]at H2
   go_wp2
   go_end0
   exact⟨rfl,V2,H2,S2⟩
end
section
open Go.ChangeShapes Go.WideShapes Go.ChangeAt Go.RowKit Go.MapKept
variable {E:Nat→Prop}
section
variable {w w6:World} {cb:Nat} {V:CV} {c c':Ck}
theorem qq.kept_set(h:qq E w cb V c)(j:Nat)(v:Value):∀ {k:Nat} {o:Obj},k≠cb→w.heap[k]?=some o→(w.setCell ⟨cb,j,none⟩ v).heap[k]?=some o:=λ{k o} h2 ho=>xz w _ _ h2 ho
theorem qq.put(h:qq E w cb V c)(j:Nat)(v:Value)(hh:zm (w.setCell ⟨cb,j,none⟩ v) cb 56 #[V.vd,.int .i64 (jI c'.jour),V.vp,.int .i64 (jI c'.expo),.bool c'.ro,.map (some V.mb),V.vb,.int .i64 c'.eat])(e1:c'.devs=c.devs)(e2:c'.parts=c.parts)(e3:c'.names=c.names):
 qq E (w.setCell ⟨cb,j,none⟩ v) cb V c'∧jX cb V w V (w.setCell ⟨cb,j,none⟩ v):=by
 have hst:jX cb V w V (w.setCell ⟨cb,j,none⟩ v):=⟨(vZ.refl _ w).set (.inl (.inl rfl)) _,λk hk=> .inl hk⟩
 obtain⟨us,q1,r1,i1⟩:=h.prts;obtain⟨ms,q2,r2,i2⟩:=h.nms;have hin:=hst.innerE (E:=E);have hsz:=hst.only.size;refine⟨⟨hh,?_,?_,?_,?_,by rw[e3];exact h.uniq,h.mlt,by rw[e1,e2,e3];exact h.few⟩,hst⟩
 ·rw[e1]
  exact zI h.devs (λg o e ho=>h.kept_set j v (by rintro rfl;exact zK h.devs h.has (by decide) e) ho)
 ·rw[e2]
  exact zI h.only (λg o e ho=>h.kept_set j v (by rintro rfl;exact zK h.only h.has (by decide) e) ho)
 ·rw[e2]
  exact⟨us,q1,zI r1 (λg o e ho=>h.kept_set j v (by rintro rfl;exact zK r1 h.has (by decide) e) ho),λi a b=>(i1 i a b).keep hsz hin⟩
 ·rw[e3]
  exact⟨ms,q2,h.kept_set j v (by intro e;have hh:w.heap[cb]?=some (.cells _ _ (0,0)):=h.has;rw[e]at r2;rw[r2]at hh;cases hh) r2,λi a b=>(i2 i a b).keep hsz hin⟩
theorem qq.putDev(h:qq E w cb V c){A6:Option Addr}{C6 d:Nat}(hg:w.grownBy w6 V.vd.ownBlock)(hr:w6.ownsRow cb 3 1 (.slice A6 (c.devs.length+1) C6) (c.devs.length+1) ((c.devs.map λd=> .int .i64 (d:Nat))++ [.int .i64 (d:Nat)]))(hw:(Value.slice A6 (c.devs.length+1) C6).ownBlock=V.vd.ownBlock∨(Value.slice A6 (c.devs.length+1) C6).ownBlock=some w.heap.size)(hl:c.devs.length≤90000):
 qq E (w6.setCell ⟨cb,0,none⟩ (.slice A6 (c.devs.length+1) C6)) cb { V with vd:= .slice A6 (c.devs.length+1) C6 } { c with devs:=c.devs++ [d] }∧jX cb V w { V with vd:= .slice A6 (c.devs.length+1) C6 } (w6.setCell ⟨cb,0,none⟩ (.slice A6 (c.devs.length+1) C6)):=by
 obtain⟨us,e1,hp,hpi⟩:=h.prts;obtain⟨ms,e2,hm,hmi⟩:=h.nms
 have hst:jX cb V w { V with vd:= .slice A6 (c.devs.length+1) C6 } (w6.setCell ⟨cb,0,none⟩ (.slice A6 (c.devs.length+1) C6)):=by
  refine⟨(⟨hg.os,hg.tape,hg.output,hg.size,λk hk hn=>hg.block k hk (λe=>hn (.inr (.inl e.symm)))⟩:vZ (V.own cb) w w6).set (.inl (.inl rfl)) _,λk hk=>?_⟩;rcases hk with e|e|e|e|e
  ·exact .inl (.inl e)
  ·rcases hw with q|q
   ·exact .inl (.inr (.inl (q ▸ e)))
   ·rw[show(Value.slice A6 (c.devs.length+1) C6).ownBlock=some w.heap.size from q]at e
    cases e;exact .inr (Nat.le_refl _)
  ·exact .inl (.inr (.inr (.inl e)))
  ·exact .inl (.inr (.inr (.inr (.inl e))))
  ·exact .inl (.inr (.inr (.inr (.inr e))))
 have hcb:V.vd.ownBlock≠some cb:=zK h.devs h.has (by decide);have kept:∀ {k:Nat} {o:Obj},V.vd.ownBlock≠some k→k≠cb→w.heap[k]?=some o→(w6.setCell ⟨cb,0,none⟩ (.slice A6 (c.devs.length+1) C6)).heap[k]?=some o:=λ{k o} h1 h2 ho=>xz w6 _ _ h2 ((hg.block k (Array.getElem?_eq_some_iff.1 ho).1 (λe=>h1 e.symm)).trans ho)
 have hin:=hst.innerE (E:=E);have hsz:=hst.only.size;refine⟨⟨(zy h.has hg hcb).putP 0 _,?_,zI h.only (λg o e ho=>kept (j2 h.devs h.only (by decide) e) (by rintro rfl;exact zK h.only h.has (by decide) e) ho),⟨us,e1,zI hp (λg o e ho=>kept (j2 h.devs hp (by decide) e) (by rintro rfl;exact zK hp h.has (by decide) e) ho),λi a b=>(hpi i a b).keep hsz hin⟩,⟨ms,e2,kept (xo h.devs hm) (by rintro e;have hh:w.heap[cb]?=some (.cells _ _ (0,0)):=h.has;rw[show V.mb=cb from e]at hm;rw[hm]at hh;cases hh) hm,λi a b=>(hmi i a b).keep hsz hin⟩,h.uniq,h.mlt,h.few.1,h.few.2.1,by simp;omega⟩,hst⟩;rw[List.length_append,List.length_singleton,List.map_append,List.map_cons,List.map_nil]
 refine zI hr (λg o e ho=>xz w6 _ _ (by
  show g≠cb;rintro rfl;rcases hw with q|q
  ·exact hcb (q ▸ e)
  ·rw[q]at e
   cases e
   exact absurd h.has.lt (Nat.lt_irrefl _)) ho)
def setObj(w:World)(b:Nat)(o:Obj):World:={ w with heap:=w.heap.setIfInBounds b o }
theorem YY(w:World){b k:Nat}(o:Obj)(h:k≠b):(setObj w b o).heap[k]?=w.heap[k]?:=by simp[setObj,Ne.symm h]
theorem FP(w:World){b:Nat}(o:Obj)(h:b<w.heap.size):(setObj w b o).heap[b]?=some o:=by simp[setObj,h]
theorem Gz(w:World)(b:Nat)(o:Obj){F:Nat→Prop}(h:F b):vZ F w (setObj w b o):=⟨rfl,rfl,rfl,by simp[setObj],λk hk hn=>YY w o (by rintro rfl;exact hn h)⟩
theorem qq.putName(h:qq E w cb V c){us:List Value}(e2:us.length=c.names.length)(hm:w.heap[V.mb]?=some (.map (j5 c.names us).toArray c.names.length))(hmi:∀i (h:i<c.names.length) (h':i<us.length),Ka w (λg=>¬V.own cb g∧E g) c.names[i].2 us[i])(s:List UInt8)(m:Mn)(u:Value)(hn:∀x ∈ c.names,x.1≠s)(hu:Ka w (λg=>¬V.own cb g∧E g) m u)(hl:c.names.length≤90000):
 qq E (setObj w V.mb (.map (j5 (c.names++ [(s,m)]) (us++ [u])).toArray (c.names.length+1))) cb V { c with names:=c.names++ [(s,m)] }∧jX cb V w V (setObj w V.mb (.map (j5 (c.names++ [(s,m)]) (us++ [u])).toArray (c.names.length+1))):=by
 generalize hO:(Obj.map (j5 (c.names++ [(s,m)]) (us++ [u])).toArray (c.names.length+1))=O
 have hst:jX cb V w V (setObj w V.mb O):=⟨Gz w V.mb O (.inr (.inr (.inr (.inr rfl)))),λk hk=> .inl hk⟩
 obtain⟨vs,e1,hp,hpi⟩:=h.prts;have hin:=hst.innerE (E:=E);have hsz:=hst.only.size;have hlt:V.mb<w.heap.size:=(Array.getElem?_eq_some_iff.1 hm).1;have kept:∀ {k:Nat} {o:Obj},k≠V.mb→w.heap[k]?=some o→(setObj w V.mb O).heap[k]?=some o:=λ{k o} h2 ho=>(YY w O h2).trans ho
 have hcb:cb≠V.mb:=by
  intro e;have hh:w.heap[cb]?=some (.cells _ _ (0,0)):=h.has;rw[e,hm]at hh;cases hh
 refine⟨⟨kept hcb h.has,zI h.devs (λg o e ho=>kept (by rintro rfl;exact xo h.devs hm e) ho),zI h.only (λg o e ho=>kept (by rintro rfl;exact xo h.only hm e) ho),⟨vs,e1,zI hp (λg o e ho=>kept (by rintro rfl;exact xo hp hm e) ho),λi a b=>(hpi i a b).keep hsz hin⟩,⟨us++ [u],by simp[e2],?_,?_⟩,?_,h.mlt,h.few.1,by simp;omega,h.few.2.2⟩,hst⟩
 ·show(setObj w V.mb O).heap[V.mb]?=_
  rw[FP w O hlt,←hO];simp
 ·intro i a b
  by_cases hi:i<c.names.length
  ·simp only[List.getElem_append_left hi,List.getElem_append_left (show i<us.length by omega)]
   exact(hmi i hi (by omega)).keep hsz hin
  ·have :i=c.names.length:=by simp at a;omega
   subst this;have q1:(c.names++ [(s,m)])[c.names.length]'a=(s,m):=by rw[List.getElem_append_right (Nat.le_refl _)];simp
   have q2:(us++ [u])[c.names.length]'b=u:=by rw[List.getElem_append_right (by omega)];simp[e2]
   simp only[q1,q2];exact hu.keep hsz hin
 ·exact List.pairwise_append.2 ⟨h.uniq,List.pairwise_singleton _ _,λa ha b hb=>by rw[List.mem_singleton.1 hb];exact hn a ha⟩
end
theorem Gc{o:Oper}{a:Act}(x y z:Operand)(ho:o.op= .mapUpdate 53 x y z){w:World}{mb:Nat}{ns:vJ}{us:List Value}(hb:w.heap[mb]?=some (.map (j5 ns us).toArray ns.length))(h:us.length=ns.length)(hu:ns.Pairwise (λx y=>x.1≠y.1))(s:List UInt8)(m:Mn)(u:Value)(hn:lk ns s=none)(hx:a.eval x= .map (some mb))(hy:a.eval y= .string (bs s))(hz:a.eval z=Uc m u):(execOp a.eval o).run Tryz.prog w= .ok .skip (setObj w mb (.map (j5 (ns++ [(s,m)]) (us++ [u])).toArray (ns.length+1))):=by
 have hk:IsKey .string (.string (bs s)):=trivial;unfold execOp;simp only[ho,hx,hy,hz];rw[←fD h s m u];rcases YM h hu s with⟨g1,g2⟩|⟨i,hi,g1,g2,g3⟩
 ·have hr:=MapKept.run_findKey (P:=Tryz.prog) (w:=w) Tryz.underlying9 g1
  simp[Instr.mapUpdate,run_underlying Tryz.underlying53,MapKept.run_getObj_map hb,MapKept.run_checkKey Tryz.underlying9 hk,hr,MapKept.run_setObj_map _ hb,Result.andThen];rfl
 ·rw[hn]at g2;cases g2
end
section
open Go.Shelf
def Tryz.laysSlK4_ren:Go.Shelf.Ren:=⟨λ |4=>144|n=>n,λ |22=>63|4=>4|5=>5|n=>n,λ |n=>n⟩
theorem Tryz.laysSlK4:Go.Proofs.SlLaysK.n4 Tryz.prog Tryz.laysSlK4_ren:={
 mixed:=by kernel_rfl
 f4:=Tryz.func144.trans (congrArg some (by kernel_rfl))
 t4:=Tryz.underlying4
 a4:=Tryz.isAgg4
 z4:=Tryz.sizeOf4
 v4:=Tryz.zeroValue4
 t22:=Tryz.underlying63
 a22:=Tryz.isAgg63
 z22:=Tryz.sizeOf63
 v22:=Tryz.zeroValue63
 t5:=Tryz.underlying5
 i5:=by kernel_rfl }
open Go.RowKit Go.Lib in
theorem Tryz.bytes_Clone_at(a:Addr)(n c:Nat)(xs:List Int)(w:World)(hx:xs.length=n)(hbig:n≤140737488355328)(hc:∀i,i<n→w.cell? (a.add i)=some (.int .u8 (xs.getD i 0))):
 Calls Tryz.prog 144 #[.slice (some a) n c] w λe w'=>∃v',e= .returned v'∧w'.ownsRow w.heap.size 5 1 v' n (xs.map (Value.int .u8))∧v'≠ .slice none 0 0∧Below w.heap.size w w':=Any.bytes_Clone_at Tryz.laysSlK4 a n c xs w hx hbig hc
open Go.RowKit Go.Lib in
theorem Tryz.bytes_Clone_nil(n c:Nat)(w:World):
 Calls Tryz.prog 144 #[.slice none n c] w λe w'=>e= .returned (.slice none 0 0)∧w'=w:=Any.bytes_Clone_nil Tryz.laysSlK4 n c w
def Tryz.laysnb115_ren:Go.Shelf.Ren:=⟨λ |115=>131|n=>n,λ |37=>63|4=>4|9=>9|5=>5|n=>n,λ |n=>n⟩
theorem Tryz.laysnb115:Go.Proofs.Lays.nb115 Tryz.prog Tryz.laysnb115_ren:={
 mixed:=by kernel_rfl
 f115:=Tryz.func131.trans (congrArg some (by kernel_rfl))
 t4:=Tryz.underlying4
 a4:=Tryz.isAgg4
 z4:=Tryz.sizeOf4
 v4:=Tryz.zeroValue4
 t9:=Tryz.underlying9
 a9:=Tryz.isAgg9
 z9:=Tryz.sizeOf9
 v9:=Tryz.zeroValue9
 t37:=Tryz.underlying63
 a37:=Tryz.isAgg63
 z37:=Tryz.sizeOf63
 v37:=Tryz.zeroValue63
 t5:=Tryz.underlying5
 a5:=Tryz.isAgg5
 z5:=Tryz.sizeOf5
 v5:=Tryz.zeroValue5 }
theorem Tryz.bytes_Equal_all(p1 p2:Option Addr)(n c m d:Nat)(xs ys:List Int)(w:World)(hx:xs.length=n)(hy:ys.length=m)(h1:Lib.BytesIn w p1 n xs)(h2:Lib.BytesIn w p2 m ys):
 Calls Tryz.prog 131 #[.slice p1 n c,.slice p2 m d] w λe w'=>e= .returned (.bool (Lib.bytesOf xs==Lib.bytesOf ys))∧w'=w:=Any.bytes_Equal_all Tryz.laysnb115 p1 p2 n c m d xs ys w hx hy h1 h2
end
section
open Go.ChangeShapes Go.WideShapes Go.ChangeAt Go.RowKit Go.MapKept
variable {E:Nat→Prop}
def dJ(w w':World)(v:Value)(l:List UInt8):Prop:=∃A C,v= .slice A l.length C∧l.length≤C∧C≤maxLen∧jK w' (λg=>w.heap.size≤g) A l
theorem zbo{w:World}{P:Nat→Prop}{A:Option Addr}{C:Nat}{l:List UInt8}(h:jK w P A l)(hl:l.length≤1000):Calls Tryz.prog 144 #[.slice A l.length C] w λe w'=>∃v,e= .returned v∧dJ w w' v l∧Below w.heap.size w w':=by
 cases A with
 |none =>
  have he:l= []:=by
   rcases h with h|⟨b,off,e,_⟩
   ·exact h
   ·cases e
  subst he;refine(Tryz.bytes_Clone_nil 0 C w).mono ?_;rintro e w' ⟨rfl,rfl⟩;exact⟨_,rfl,⟨none,0,rfl,Nat.le_refl _,by unfold maxLen;omega,.inl rfl⟩,Below.refl _ _⟩
 |some a =>
  refine(Tryz.bytes_Clone_at a l.length C (l.map λb=>((b.toNat:Nat):Int)) w (by simp) (by omega) (λi hi=>?_)).mono ?_
  ·rcases h with h|⟨b,off,e,hb,_,hc⟩
   ·rw[h]at hi;simp at hi
   ·cases e
    have:=hc i hi;rw[show(⟨b,off,none⟩:Addr).add i=⟨b,off+i,none⟩ by simp[Addr.add],this];simp[List.getD_eq_getElem?_getD,hi]
  ·rintro e w' ⟨v',rfl,hr,hne,hb⟩
   refine⟨v',rfl,?_,hb⟩;rcases hr.2 with⟨e,h0⟩|⟨g,cap,cur,rfl,hg,hh,hn,hm,hs,ht⟩
   ·exact absurd e hne
   ·refine⟨_,cap,rfl,hn,hm,?_⟩
    by_cases hl0:l= []
    ·exact .inl hl0
    ·refine .inr ⟨g,0,rfl,(Array.getElem?_eq_some_iff.1 hh).1,hg,λj hj=>?_⟩
     rw[Nat.zero_add,cell_of_row w' g j cur _ _ hh,←Array.getElem?_toList];have e1:(cur.toList.take (l.length*1))[j]?=cur.toList[j]?:=List.getElem?_take_of_lt (by omega);rw[←e1,ht];simp[hj]
def zdh(w:World)(R:Except Er Mn)(e:Ending)(w':World):Prop:=Below w.heap.size w w'∧match R with
 | .error (c,k)=>e= .panicked (XT c k)
 | .ok m=>∃v,e= .returned v∧dJ w w' v m.bytes
theorem VB{w:World}{cb:Nat}{V:CV}{c:Ck}(h:qq E w cb V c)(n:Nd)(A:Option Addr)(C:Nat)(hr:jZ w n A C)(hl:2≤n.l.length)(wd:List UInt8)(hby:∀x ∈ c.names,x.2.bytes.length≤1000):Calls Tryz.prog 130 #[.pointer (some ⟨cb,0,none⟩),.agg (qD n (.slice A n.l.length C)),.string (bs wd)] w (zdh w (jk c.names (zF n.l 1) [wd])):=by
 obtain⟨g,off,Au,Cu,rfl,hg,hat⟩:=jg hr (by omega);obtain⟨hat1,_⟩:=hat 1 (by omega);have hlen:=hr.len
 obtain⟨L,hL⟩:∃L,L=n.l.length:=⟨_,rfl⟩
 rw[←hL]at hl hlen ⊢;generalize zF n.l 1=m1 at hat1 ⊢
 obtain⟨W1,hW1⟩:∃W1,W1=(w.alloc (.cells #[.string (bs n.op),.string (bs n.s),.int .i64 n.n,.int .i64 n.a,.slice (some ⟨g,off,none⟩) L C] 24)).alloc (.cells #[.string (bs wd)] 9):=⟨_,rfl⟩
 have hb1:Below w.heap.size w W1:=by rw[hW1];exact yr w _ _
 have hkn:=Kq (h.keep hb1) m1 (Au 1) m1.l.length (Cu 1) [wd] (.slice (some ⟨w.heap.size+1,0,none⟩) 1 1) (.inr ⟨w.heap.size+1,rfl,by rw[hW1];exact zm.new_at (by simp)⟩) (by simp);have hat2:yO (w.alloc (.cells #[.string (bs n.op),.string (bs n.s),.int .i64 n.n,.int .i64 n.a,.slice (some ⟨g,off,none⟩) L C] 24)) g (off+1*5) m1 (Au 1) (Cu 1):=hat1.grow (zl w _) hg;rw[hW1]at hkn;have HW:Hid (W1=(w.alloc (.cells #[.string (bs n.op),.string (bs n.s),.int .i64 n.n,.int .i64 n.a,.slice (some ⟨g,off,none⟩) L C] 24)).alloc (.cells #[.string (bs wd)] 9)):=hW1;clear hW1 hL;have hmem:=λm (e:jk c.names m1 [wd]= .ok m)=>hby _ (Qf e).1
 have hli:(1:Int)<(L:Int):=by omega
 have hCm:L≤C∧C≤9223372036854775807:=hlen;cases hK:jk c.names m1 [wd]with
 |error er =>
  obtain⟨ec,ek⟩:=er;rw[hK]at hkn;clear hK hmem hlen hr h;unfold qD at hkn ⊢;go_enter Tryz.func130,Tryz.ntmps130
  go_wp2_with (first
   |((refine zi 11 rfl ?_)
     refine zd (some 11) _ rfl (by rfl) (zC _ rfl g (off+1*5) rfl _ hat2) ?_;(unfold zO))
   |((go_at_call 79)
     refine hkn.mono ?_;(rintro e w2 ⟨hb2,rfl⟩)))
  rw[←HW.out]at hb2;exact⟨rfl,hb1.trans (hb2.mono hb1.size),rfl⟩
 |ok m =>
  have hml:=hmem m hK;rw[hK]at hkn;clear hK hmem hlen hr h;unfold qD at hkn ⊢;go_enter Tryz.func130,Tryz.ntmps130
  go_wp2_with (first
   |((refine zi 11 rfl ?_)
     refine zd (some 11) _ rfl (by rfl) (zC _ rfl g (off+1*5) rfl _ hat2) ?_;(unfold zO))
   |((go_at_call 79)
     refine hkn.mono ?_;rintro e w2 ⟨hb2,Am,Cm,rfl,hm1,hm2,hbp⟩;(unfold Uc))
   |((refine zi 15 rfl ?_)
     (refine zd (some 15) (.slice Am m.bytes.length Cm) rfl (by rfl) (by kernel_rfl) ?_))
   |((go_at_call 144)
     refine(zbo hbp hml).mono ?_;(rintro e w3 ⟨v3,rfl,hN,hb3⟩)))
  go_ret
  rw[←HW.out]at hb2;have hb02:Below w.heap.size w w2:=hb1.trans (hb2.mono hb1.size);refine⟨hb02.trans (hb3.mono hb02.size),v3,rfl,?_⟩;obtain⟨A',C',e1,e2,e3,e4⟩:=hN;exact⟨A',C',e1,e2,e3,e4.keep (Nat.le_refl _) (λk hk hB=>⟨rfl,Nat.le_trans hb02.size hB⟩)⟩
end
section
open Go.ChangeShapes Go.WideShapes Go.ChangeAt Go.RowKit Go.MapKept
variable {E:Nat→Prop}
def Zn(w:World)(R:Except Er Pt)(e:Ending)(w':World):Prop:=Below w.heap.size w w'∧match R with
 | .error (c,k)=>e= .panicked (XT c k)
 | .ok p=>∃u,e= .returned (.agg (Q9 p u))∧xH w' (λg=>w.heap.size≤g) p u
theorem yX{fn:Func}{R:Ending→World→Prop}{a:Act}{W:World}{s g:Nat}{x0 x1 x2 x3 x4 x5 x6 x7:Value}(hr:fn.results= #[.cell s 65])(hs:a.tmps[s]?.getD undef= .pointer (some ⟨g,0,none⟩))(hH:zm W g 65 #[x0,x1,x2,x3,x4,x5,x6,x7])(hd:a.defers= [])(h:R (.returned (.agg #[x0,x1,x2,x3,x4,x5,x6,x7])) W):bodyPost Tryz.prog fn R .ret a W:=by
 have q0:=hH.cell 0;have q1:=hH.cell 1;have q2:=hH.cell 2;have q3:=hH.cell 3;have q4:=hH.cell 4;have q5:=hH.cell 5;have q6:=hH.cell 6;have q7:=hH.cell 7;exact bodyPost_ret (by simp only[results,hr];simp[hs,go_sem,q0,q1,q2,q3,q4,q5,q6,q7]) hd h
abbrev Z7(W:World)(g:Nat)(x0 x1 x2 x3 x4 x5 x6 x7:Value):World:=(((((((W.setCell ⟨g,0,none⟩ x0).setCell ⟨g,1,none⟩ x1).setCell ⟨g,2,none⟩ x2).setCell ⟨g,3,none⟩ x3).setCell ⟨g,4,none⟩ x4).setCell ⟨g,5,none⟩ x5).setCell ⟨g,6,none⟩ x6).setCell ⟨g,7,none⟩ x7
theorem zm.set8{w:World}{g t:Nat}{a0 a1 a2 a3 a4 a5 a6 a7:Value}(h:zm w g t #[a0,a1,a2,a3,a4,a5,a6,a7])(x0 x1 x2 x3 x4 x5 x6 x7:Value):zm (Z7 w g x0 x1 x2 x3 x4 x5 x6 x7) g t #[x0,x1,x2,x3,x4,x5,x6,x7]:=by
 have h0:zm _ g t #[x0,a1,a2,a3,a4,a5,a6,a7]:=h.putP 0 x0;have h1:zm _ g t #[x0,x1,a2,a3,a4,a5,a6,a7]:=h0.putP 1 x1;have h2:zm _ g t #[x0,x1,x2,a3,a4,a5,a6,a7]:=h1.putP 2 x2;have h3:zm _ g t #[x0,x1,x2,x3,a4,a5,a6,a7]:=h2.putP 3 x3;have h4:zm _ g t #[x0,x1,x2,x3,x4,a5,a6,a7]:=h3.putP 4 x4;have h5:zm _ g t #[x0,x1,x2,x3,x4,x5,a6,a7]:=h4.putP 5 x5;have h6:zm _ g t #[x0,x1,x2,x3,x4,x5,x6,a7]:=h5.putP 6 x6;have h7:zm _ g t #[x0,x1,x2,x3,x4,x5,x6,x7]:=h6.putP 7 x7;exact h7
theorem K9{w W:World}{B g:Nat}(h:Below B w W)(hg:B≤g)(x0 x1 x2 x3 x4 x5 x6 x7:Value):Below B w (Z7 W g x0 x1 x2 x3 x4 x5 x6 x7):=(((((((h.setCell (p:=⟨g,0,none⟩) hg x0).setCell (p:=⟨g,1,none⟩) hg x1).setCell (p:=⟨g,2,none⟩) hg x2).setCell (p:=⟨g,3,none⟩) hg x3).setCell (p:=⟨g,4,none⟩) hg x4).setCell (p:=⟨g,5,none⟩) hg x5).setCell (p:=⟨g,6,none⟩) hg x6).setCell (p:=⟨g,7,none⟩) hg x7
theorem Uw{w:World}{cb:Nat}{V:CV}{c:Ck}(h:qq E w cb V c)(n:Nd)(A:Option Addr)(C:Nat)(hr:jZ w n A C)(hl:2≤n.l.length)(ho:n.op=qb)(size:Nat)(hsz:size≤8192)(hby:∀x ∈ c.names,x.2.bytes.length≤1000):Calls Tryz.prog 107 #[.pointer (some ⟨cb,0,none⟩),.agg (qD n (.slice A n.l.length C)),.int .i64 (size:Nat)] w (Zn w (jE c.names n size [])):=by
 have hcs:jE c.names n size []=match jk c.names (zF n.l 1) [zM]with | .error e=> .error e| .ok m=>if dI size=0 then .error (134,n.a)else .ok ⟨7,dI size,[],0,0,0,m.bytes,[]⟩:=by
  unfold jE;rw[if_neg (by rw[ho];decide),if_pos ho];rfl
 rw[hcs];have f0:(n.op== [99,114,121,112,116])=false:=by rw[ho];decide
 have f1:(n.op== [105,110,116,101,103,114,105,116,121])=true:=by rw[ho];decide
 have hot:=zp n.op
 obtain⟨W2,hW2⟩:∃W2,W2=(w.alloc (.cells #[.string (bs n.op),.string (bs n.s),.int .i64 n.n,.int .i64 n.a,.slice A n.l.length C] 24)).alloc (.cells #[.int .i64 0,.int .i64 0,.slice none 0 0,.int .i64 0,.int .i64 0,.int .i64 0,.slice none 0 0,.slice none 0 0] 65):=⟨_,rfl⟩
 have hb2:Below w.heap.size w W2:=by rw[hW2];exact yr w _ _
 have P2:zm W2 (w.heap.size+1) 65 #[.int .i64 0,.int .i64 0,.slice none 0 0,.int .i64 0,.int .i64 0,.int .i64 0,.slice none 0 0,.slice none 0 0]:=by rw[hW2];exact zm.new_at (by simp)
 have N2:zm W2 w.heap.size 24 #[.string (bs n.op),.string (bs n.s),.int .i64 n.n,.int .i64 n.a,.slice A n.l.length C]:=by rw[hW2];exact(zm.new w _ _).alloc _
 have hsec:=VB (h.keep hb2) n A C (hr.grow hb2) hl zM hby;rw[show bs zM=⟨#[107,101,121]⟩from rfl]at hsec;have hdat:=λW=>kQ size W hsz
 rw[hW2]at hsec;have HW:Hid (W2=(w.alloc (.cells #[.string (bs n.op),.string (bs n.s),.int .i64 n.n,.int .i64 n.a,.slice A n.l.length C] 24)).alloc (.cells #[.int .i64 0,.int .i64 0,.slice none 0 0,.int .i64 0,.int .i64 0,.int .i64 0,.slice none 0 0,.slice none 0 0] 65)):=hW2;clear hW2 hcs h hr hl ho;generalize n.l.length=L at *;cases hK:jk c.names (zF n.l 1) [zM]with
 |error er =>
  obtain⟨ec,ek⟩:=er;rw[hK]at hsec;clear hK;unfold qD at hsec ⊢;go_enter Tryz.func107,Tryz.ntmps107
  go_wp2_with (first
   |((go_at_call 130)
     refine hsec.mono ?_;(rintro e w3 ⟨hb3,rfl⟩)))
  rw[←HW.out]at hb3;exact⟨rfl,hb2.trans (hb3.mono hb2.size),rfl⟩
 |ok m =>
  have hml:=hby _ (Qf hK).1;rw[hK]at hsec;clear hK
  have HD:Hid (∀r,j0 8192 (xN tg size) r→r=dI size):=(λr hr=>hr.eq (Qg _ _):∀r,j0 8192 (xN tg size) r→r=dI size)
  generalize dI size=D at HD ⊢;unfold qD at hsec ⊢;by_cases hD0:D=0
  ·subst hD0
   simp only[if_true];go_enter Tryz.func107,Tryz.ntmps107
   go_wp2_with (first
    |((go_at_call 130)
      refine hsec.mono ?_;rintro e w3 ⟨hb3,v3,rfl,hN⟩;rw[←HW.out]at hb3;have N3:=N2.below hb3 N2.lt;have nc3:=N3.cell 3;(have ln3:=N3.lt))
    |((go_at_call 132)
      refine(hdat _).mono ?_;rintro e w4 ⟨r,rfl,hgr,hb4⟩;obtain rfl:r=0:=HD.out r hgr;(have nc4:=za hb4 nc3))
    |((go_at_call 62)
      refine(jA 134 n.a _).mono ?_;(rintro e w5 ⟨rfl,rfl⟩)))
   exact⟨rfl,(hb2.trans (hb3.mono hb2.size)).trans (hb4.mono (Nat.le_trans hb2.size hb3.size)),rfl⟩
  ·simp only[if_neg hD0]
   have hDn:decide (0<D)=true:=decide_eq_true (by omega);clear hD0;go_enter Tryz.func107,Tryz.ntmps107
   go_wp2_with (first
    |((go_at_call 130)
      refine hsec.mono ?_;rintro e w3 ⟨hb3,v3,rfl,Ab,Cb,rfl,e2,e3,hBy⟩;rw[←HW.out]at hb3 hBy;have N3:=N2.below hb3 N2.lt;have nc3:=N3.cell 3;(have ln3:=N3.lt))
    |((go_at_call 132)
      refine(hdat _).mono ?_;rintro e w4 ⟨r,rfl,hgr,hb4⟩;obtain rfl:D=r:=(HD.out r hgr).symm;have nc4:=za hb4 nc3;have P3:=(P2.below hb3 P2.lt).below hb4 (P2.below hb3 P2.lt).lt;have lp3:=P3.lt;have a0:=P3.cell 0;have b0:=P3.free 0;have a1:=P3.cell 1;have b1:=P3.free 1;have a2:=P3.cell 2;have b2:=P3.free 2;have a3:=P3.cell 3;have b3:=P3.free 3;have a4:=P3.cell 4;have b4:=P3.free 4;have a5:=P3.cell 5;have b5:=P3.free 5;have a6:=P3.cell 6;have b6:=P3.free 6;have a7:=P3.cell 7;(have b7:=P3.free 7))
    |((go_at_call 62)
      refine(qL 134 n.a _).mono ?_;rintro e w5 ⟨rfl,hw5⟩;(obtain rfl:w4=w5:=hw5.symm)))
   have hb04:Below w.heap.size w w4:=(hb2.trans (hb3.mono hb2.size)).trans (hb4.mono (Nat.le_trans hb2.size hb3.size));have hbf:=K9 (g:=w.heap.size+1) hb04 (Nat.le_succ _) (.int .i64 7) (.int .i64 (D:Nat)) (.slice none 0 0) (.int .i64 0) (.int .i64 0) (.int .i64 0) (.slice Ab m.bytes.length Cb) (.slice none 0 0);refine yX rfl rfl (P3.set8 _ _ _ _ _ _ _ _) rfl ⟨hbf,(.slice none 0 0,.slice Ab m.bytes.length Cb,.slice none 0 0),rfl,?_⟩
   have KB:jK (Z7 w4 (w.heap.size+1) (.int .i64 7) (.int .i64 (D:Nat)) (.slice none 0 0) (.int .i64 0) (.int .i64 0) (.int .i64 0) (.slice Ab m.bytes.length Cb) (.slice none 0 0)) (λg=>w.heap.size≤g) Ab m.bytes:=hBy.keep (by simpa using hb4.size) (λk hk hB=>⟨by
    have hk2:k≠w.heap.size+1:=by have:=P2.lt;omega
    unfold Z7
    iterate 8 rw[Below.heap_setCell _ _ _ k hk2]
    exact hb4.block k hk,Nat.le_trans hb2.size hB⟩)
   exact⟨⟨none,0,rfl,Nat.le_refl _,by unfold maxLen;omega,.inl rfl⟩,⟨Ab,Cb,rfl,e2,e3,KB⟩,⟨none,0,rfl,Nat.le_refl _,by unfold maxLen;omega,.inl rfl⟩⟩
theorem Dn{w:World}{cb:Nat}{V:CV}{c:Ck}(h:qq E w cb V c)(n:Nd)(A:Option Addr)(C:Nat)(hr:jZ w n A C)(hl:2≤n.l.length)(ho:n.op=jf)(size:Nat)(hsz:size≤8192)(hby:∀x ∈ c.names,x.2.bytes.length≤1000):Calls Tryz.prog 107 #[.pointer (some ⟨cb,0,none⟩),.agg (qD n (.slice A n.l.length C)),.int .i64 (size:Nat)] w (Zn w (jE c.names n size [])):=by
 have hcs:jE c.names n size []=match jk c.names (zF n.l 1) [zN]with | .error e=> .error e| .ok m=>if dV size=0 then .error (134,n.a)else .ok ⟨8,dV size,[],0,0,0,[],m.bytes⟩:=by
  unfold jE;rw[if_neg (by rw[ho];decide),if_neg (by rw[ho];decide)];rfl
 rw[hcs];have f0:(n.op== [99,114,121,112,116])=false:=by rw[ho];decide
 have f1:(n.op== [105,110,116,101,103,114,105,116,121])=false:=by rw[ho];decide
 have hot:=zp n.op
 obtain⟨W2,hW2⟩:∃W2,W2=(w.alloc (.cells #[.string (bs n.op),.string (bs n.s),.int .i64 n.n,.int .i64 n.a,.slice A n.l.length C] 24)).alloc (.cells #[.int .i64 0,.int .i64 0,.slice none 0 0,.int .i64 0,.int .i64 0,.int .i64 0,.slice none 0 0,.slice none 0 0] 65):=⟨_,rfl⟩
 have hb2:Below w.heap.size w W2:=by rw[hW2];exact yr w _ _
 have P2:zm W2 (w.heap.size+1) 65 #[.int .i64 0,.int .i64 0,.slice none 0 0,.int .i64 0,.int .i64 0,.int .i64 0,.slice none 0 0,.slice none 0 0]:=by rw[hW2];exact zm.new_at (by simp)
 have N2:zm W2 w.heap.size 24 #[.string (bs n.op),.string (bs n.s),.int .i64 n.n,.int .i64 n.a,.slice A n.l.length C]:=by rw[hW2];exact(zm.new w _ _).alloc _
 have hsec:=VB (h.keep hb2) n A C (hr.grow hb2) hl zN hby;rw[show bs zN=⟨#[114,111,111,116]⟩from rfl]at hsec;have hdat:=λW=>Du size W hsz
 rw[hW2]at hsec;have HW:Hid (W2=(w.alloc (.cells #[.string (bs n.op),.string (bs n.s),.int .i64 n.n,.int .i64 n.a,.slice A n.l.length C] 24)).alloc (.cells #[.int .i64 0,.int .i64 0,.slice none 0 0,.int .i64 0,.int .i64 0,.int .i64 0,.slice none 0 0,.slice none 0 0] 65)):=hW2;clear hW2 hcs h hr hl ho;generalize n.l.length=L at *;cases hK:jk c.names (zF n.l 1) [zN]with
 |error er =>
  obtain⟨ec,ek⟩:=er;rw[hK]at hsec;clear hK;unfold qD at hsec ⊢;go_enter Tryz.func107,Tryz.ntmps107
  go_wp2_with (first
   |((go_at_call 130)
     refine hsec.mono ?_;(rintro e w3 ⟨hb3,rfl⟩)))
  rw[←HW.out]at hb3;exact⟨rfl,hb2.trans (hb3.mono hb2.size),rfl⟩
 |ok m =>
  have hml:=hby _ (Qf hK).1;rw[hK]at hsec;clear hK
  have HD:Hid (∀r,j0 2048 (xN hs size) r→r=dV size):=(λr hr=>hr.eq (Qg _ _):∀r,j0 2048 (xN hs size) r→r=dV size)
  generalize dV size=D at HD ⊢;unfold qD at hsec ⊢;by_cases hD0:D=0
  ·subst hD0
   simp only[if_true];go_enter Tryz.func107,Tryz.ntmps107
   go_wp2_with (first
    |((go_at_call 130)
      refine hsec.mono ?_;rintro e w3 ⟨hb3,v3,rfl,hN⟩;rw[←HW.out]at hb3;have N3:=N2.below hb3 N2.lt;have nc3:=N3.cell 3;(have ln3:=N3.lt))
    |((go_at_call 133)
      refine(hdat _).mono ?_;rintro e w4 ⟨r,rfl,hgr,hb4⟩;obtain rfl:r=0:=HD.out r hgr;(have nc4:=za hb4 nc3))
    |((go_at_call 62)
      refine(jA 134 n.a _).mono ?_;(rintro e w5 ⟨rfl,rfl⟩)))
   exact⟨rfl,(hb2.trans (hb3.mono hb2.size)).trans (hb4.mono (Nat.le_trans hb2.size hb3.size)),rfl⟩
  ·simp only[if_neg hD0]
   have hDn:decide (0<D)=true:=decide_eq_true (by omega);clear hD0;go_enter Tryz.func107,Tryz.ntmps107
   go_wp2_with (first
    |((go_at_call 130)
      refine hsec.mono ?_;rintro e w3 ⟨hb3,v3,rfl,Ab,Cb,rfl,e2,e3,hBy⟩;rw[←HW.out]at hb3 hBy;have N3:=N2.below hb3 N2.lt;have nc3:=N3.cell 3;(have ln3:=N3.lt))
    |((go_at_call 133)
      refine(hdat _).mono ?_;rintro e w4 ⟨r,rfl,hgr,hb4⟩;obtain rfl:D=r:=(HD.out r hgr).symm;have nc4:=za hb4 nc3;have P3:=(P2.below hb3 P2.lt).below hb4 (P2.below hb3 P2.lt).lt;have lp3:=P3.lt;have a0:=P3.cell 0;have b0:=P3.free 0;have a1:=P3.cell 1;have b1:=P3.free 1;have a2:=P3.cell 2;have b2:=P3.free 2;have a3:=P3.cell 3;have b3:=P3.free 3;have a4:=P3.cell 4;have b4:=P3.free 4;have a5:=P3.cell 5;have b5:=P3.free 5;have a6:=P3.cell 6;have b6:=P3.free 6;have a7:=P3.cell 7;(have b7:=P3.free 7))
    |((go_at_call 62)
      refine(qL 134 n.a _).mono ?_;rintro e w5 ⟨rfl,hw5⟩;(obtain rfl:w4=w5:=hw5.symm)))
   have hb04:Below w.heap.size w w4:=(hb2.trans (hb3.mono hb2.size)).trans (hb4.mono (Nat.le_trans hb2.size hb3.size));have hbf:=K9 (g:=w.heap.size+1) hb04 (Nat.le_succ _) (.int .i64 8) (.int .i64 (D:Nat)) (.slice none 0 0) (.int .i64 0) (.int .i64 0) (.int .i64 0) (.slice none 0 0) (.slice Ab m.bytes.length Cb);refine yX rfl rfl (P3.set8 _ _ _ _ _ _ _ _) rfl ⟨hbf,(.slice none 0 0,.slice none 0 0,.slice Ab m.bytes.length Cb),rfl,?_⟩
   have KB:jK (Z7 w4 (w.heap.size+1) (.int .i64 8) (.int .i64 (D:Nat)) (.slice none 0 0) (.int .i64 0) (.int .i64 0) (.int .i64 0) (.slice none 0 0) (.slice Ab m.bytes.length Cb)) (λg=>w.heap.size≤g) Ab m.bytes:=hBy.keep (by simpa using hb4.size) (λk hk hB=>⟨by
    have hk2:k≠w.heap.size+1:=by have:=P2.lt;omega
    unfold Z7
    iterate 8 rw[Below.heap_setCell _ _ _ k hk2]
    exact hb4.block k hk,Nat.le_trans hb2.size hB⟩)
   exact⟨⟨none,0,rfl,Nat.le_refl _,by unfold maxLen;omega,.inl rfl⟩,⟨none,0,rfl,Nat.le_refl _,by unfold maxLen;omega,.inl rfl⟩,⟨Ab,Cb,rfl,e2,e3,KB⟩⟩
end
section
open Go.ChangeShapes Go.WideShapes Go.ChangeAt Go.RowKit Go.MapKept
variable {E:Nat→Prop}
theorem xl{w:World}{base e size n:Nat}{v:Value}{xs:List Value}(h:w.ownsRow base e size v n xs)(hn:0<n):∃g C,v= .slice (some ⟨g,0,none⟩) n C∧n≤C∧C≤maxLen∧g<w.heap.size∧base≤g∧∀j,j<n*size→w.cell? ⟨g,j,none⟩=xs[j]?:=by
 rcases h.2 with⟨_,h0⟩|⟨g,cap,cur,rfl,hg,hh,hn',hm,hs,ht⟩
 ·omega
 ·refine⟨g,cap,rfl,hn',hm,(Array.getElem?_eq_some_iff.1 hh).1,hg,λj hj=>?_⟩
  rw[cell_of_row w g j cur _ _ hh,←Array.getElem?_toList,←ht];exact(List.getElem?_take_of_lt hj).symm
theorem Qu(l:List Pt):∀(us:List (Value×Value×Value)) (h:us.length=l.length) (k:Nat) (hk:k<l.length) (j:Nat),j<8→(gv l us)[k*8+j]?=(Q9 l[k] (us[k]'(by omega)))[j]?:=by
 induction l with
 |nil=>intro us h k hk;simp at hk
 |cons p l ih =>
  intro us h k hk j hj;cases us with
  |nil=>simp at h
  |cons u us =>
   have h':us.length=l.length:=by simpa using h
   have e:gv (p::l) (u::us)=(Q9 p u).toList++gv l us:=rfl;rw[e];have h8:(Q9 p u).toList.length=8:=rfl;cases k with
   |zero =>
    rw[Nat.zero_mul,Nat.zero_add,List.getElem?_append_left (by rw[h8];exact hj)];rw[Array.getElem?_toList];rfl
   |succ k =>
    rw[List.getElem?_append_right (by rw[h8];omega),h8,show(k+1)*8+j-8=k*8+j by omega];exact ih us h' k (by simpa using hk) j hj
theorem um(ps:List Pt){k:Nat}(hk:k<ps.length):sz ps k=ps[k].size:=by
 unfold sz zx;rw[List.getD_eq_getElem?_getD,List.getElem?_eq_getElem hk];rfl
def uk(w:World)(g off:Nat)(ps:List Pt):Prop:=∀k,k<ps.length→w.cell? ⟨g,off+k*8+1,none⟩=some (.int .i64 (sz ps k:Nat))
theorem qq.vp{w:World}{cb:Nat}{V:CV}{c:Ck}(h:qq E w cb V c)(hn:0<c.parts.length):∃g off C,V.vp= .slice (some ⟨g,off,none⟩) c.parts.length C∧c.parts.length≤C∧C≤maxLen∧g<w.heap.size∧uk w g off c.parts:=by
 obtain⟨us,e1,hp,_⟩:=h.prts;obtain⟨g,C,e,h1,h2,h3,_,h4⟩:=xl hp hn;refine⟨g,0,C,e,h1,h2,h3,λk hk=>?_⟩;rw[show 0+k*8+1=k*8+1 by omega,h4 (k*8+1) (by omega),Qu _ us e1 k hk 1 (by decide),um _ hk];rfl
def zag(w:World)(g off:Nat)(os:List Bool):Prop:=∀k,k<os.length→w.cell? ⟨g,off+k,none⟩=some (.bool (os.getD k false))
theorem qq.vo{w:World}{cb:Nat}{V:CV}{c:Ck}(h:qq E w cb V c)(hn:0<c.parts.length):∃g off C,V.vb= .slice (some ⟨g,off,none⟩) c.parts.length C∧c.parts.length≤C∧C≤maxLen∧g<w.heap.size∧zag w g off (zR c.parts):=by
 obtain⟨g,C,e,h1,h2,h3,_,h4⟩:=xl h.only hn;refine⟨g,0,C,e,h1,h2,h3,λk hk=>?_⟩;have hl:k<c.parts.length:=by rw[vr]at hk;exact hk
 rw[Nat.zero_add,h4 k (by omega),List.getElem?_map,List.getElem?_eq_getElem hk,List.getD_eq_getElem?_getD,List.getElem?_eq_getElem hk];rfl
theorem uk.below{w w':World}{B g off:Nat}{ps:List Pt}(h:uk w g off ps)(hb:Below B w w')(hg:g<B):uk w' g off ps:=λk hk=>(hb.cell (p:=⟨g,off+k*8+1,none⟩) hg).trans (h k hk)
theorem zag.below{w w':World}{B g off:Nat}{os:List Bool}(h:zag w g off os)(hb:Below B w w')(hg:g<B):zag w' g off os:=λk hk=>(hb.cell (p:=⟨g,off+k,none⟩) hg).trans (h k hk)
theorem qh{o:Oper}{a:Act}(x i:Operand)(ho:o.op= .indexAddr 29 x i)(g off k n cap:Nat)(hx:a.eval x= .slice (some ⟨g,off,none⟩) n cap)(hi:a.eval i= .int .i64 (k:Nat))(hk:k<n)(w:World):(execOp a.eval o).run Tryz.prog w= .ok (.value (.pointer (some ⟨g,off+k,none⟩))) w:=ZJ 29 x i ho g off k n cap 3 hx hi Tryz.underlying29 (by kernel_rfl) hk w
theorem xU{o:Oper}{a:Act}(x i:Operand)(ho:o.op= .indexAddr 54 x i)(g off k n cap:Nat)(hx:a.eval x= .slice (some ⟨g,off,none⟩) n cap)(hi:a.eval i= .int .i64 (k:Nat))(hk:k<n)(w:World):(execOp a.eval o).run Tryz.prog w= .ok (.value (.pointer (some ⟨g,off+k,none⟩))) w:=ZJ 54 x i ho g off k n cap 4 hx hi Tryz.underlying54 (by kernel_rfl) hk w
theorem Qx{o:Oper}{a:Act}(x y:Operand)(ho:o.op= .binOp .eql 3 x y 3)(p q:Nat)(hx:a.eval x= .int .i64 (p:Nat))(hy:a.eval y= .int .i64 (q:Nat))(w:World):(execOp a.eval o).run Tryz.prog w= .ok (.value (.bool (p==q))) w:=by
 have e:((p:Int)==(q:Int))=(p==q):=by rw[Bool.eq_iff_iff];simp;omega
 unfold execOp;simp only[ho,hx,hy];rw[←e];go_simp
theorem dh{o:Oper}{a:Act}(x y:Operand)(ho:o.op= .binOp .quo 3 x y 3)(p q:Nat)(hx:a.eval x= .int .i64 ((p*q:Nat):Int))(hy:a.eval y= .int .i64 (q:Nat))(hq:0<q)(hp:p*q≤1000000)(w:World):(execOp a.eval o).run Tryz.prog w= .ok (.value (.int .i64 (p:Nat))) w:=by
 have e:((p*q:Nat):Int).tdiv (q:Int)=(p:Int):=by
  rw[←Int.ofNat_tdiv,Nat.mul_div_cancel _ hq]
 have hq':¬((q:Nat):Int)=0:=by omega
 have hle:p≤1000000:=by
  have:=Nat.le_mul_of_pos_right p hq;omega
 unfold execOp;simp only[ho,hx,hy];generalize ((p*q:Nat):Int)=X at *;generalize ((q:Nat):Int)=Q at *;go_simp;exact IntWalk.i64_in _ (by omega)
def GJ:Except Er Pt→Except Er Pt
 | .error e=> .error e
 | .ok p=> .ok { p with kids:= [] }
def Gh(ps:List Pt)(n:Nd)(ks:List Nat):Except Er Pt:=
 if n.op=qQ then
  if(ks.map (sz ps)).sum≤8192 then .ok ⟨3,(ks.map (sz ps)).sum,ks,0,0,0,[],[]⟩else .error (134,n.a)
 else if ks.all (λk=>sz ps k==sz ps (ks.getD 0 0))then .ok ⟨4,sz ps (ks.getD 0 0),ks,0,0,0,[],[]⟩else .error (134,n.a)
end
section
open Go.ChangeShapes Go.WideShapes Go.ChangeAt Go.RowKit
theorem zbe(z:Int)(h:97≤z∧z≤102)(w:World):Calls Tryz.prog 120 #[.int .u8 z] w λe w'=>e= .returned (.int .u8 z)∧w'=w:=by
 have hz:z=97∨z=98∨z=99∨z=100∨z=101∨z=102:=by omega
 rcases hz with rfl|rfl|rfl|rfl|rfl|rfl
 all_goals
  go_enter Tryz.func120,Tryz.ntmps120
  go_wp2
  go_ret
  exact⟨rfl,rfl⟩
def yw(l:List UInt8):Nat:=l.foldl (λn c=>16*n+hv1 c) 0
theorem FQ(x:List UInt8)(k:Nat)(h:k<x.length):yw (x.take (k+1))=16*yw (x.take k)+hv1 x[k]:=by
 unfold yw;rw[List.take_succ_eq_append_getElem h,List.foldl_append];rfl
theorem gI{c:UInt8}(h:zG c=true):(48≤((c.toNat:Nat):Int)∧((c.toNat:Nat):Int)≤57∧((hv1 c:Nat):Int)=(c.toNat:Int)-48)∨(97≤((c.toNat:Nat):Int)∧((c.toNat:Nat):Int)≤102∧((hv1 c:Nat):Int)=(c.toNat:Int)-87):=by
 unfold zG zz at h;unfold hv1;simp only[Bool.or_eq_true,Bool.and_eq_true,decide_eq_true_eq]at h;rcases h with⟨h1,h2⟩|⟨h1,h2⟩
 ·refine .inl ⟨by omega,by omega,?_⟩
  rw[if_neg (by omega)];omega
 ·refine .inr ⟨by omega,by omega,?_⟩
  rw[if_pos (by omega)];omega
theorem dq{c:UInt8}(h:zG c=true):hv1 c≤15:=by
 rcases gI h with⟨h1,h2,h3⟩|⟨h1,h2,h3⟩<;>omega
theorem gG(x:List UInt8)(hf:∀c ∈ x,zG c=true)(k:Nat)(hk:k≤2)(h2:x.length=2):yw (x.take k)≤255∧(k<2→yw (x.take k)≤15):=by
 match x,h2 with
 | [a,b],_ =>
   have ha:=dq (hf a (by simp));have hb:=dq (hf b (by simp));have :k=0∨k=1∨k=2:=by omega
   rcases this with rfl|rfl|rfl
   ·simp[yw]
   ·simp[yw];omega
   ·simp[yw];omega
theorem D5(x:List UInt8)(w:World)(h2:x.length=2)(hf:∀c ∈ x,zG c=true):
 Calls Tryz.prog 103 #[.string (bs x),.int .i64 16,.int .i64 8] w λe w'=>e= .returned (.tuple #[.int .u64 (yw x:Nat),.nilIface])∧Below w.heap.size w w':=by
 have hsz:=zJ x;obtain⟨W1,cap,hconv,hcell,hbel⟩:=Ux w x;have hxl:=gG x hf;have HS:Hid ((bs x).size=x.length):=hsz;have hne:(x== [])=false:=by match x,h2 with | [a,b],_=>rfl
 have hot:=zp x;rw[h2]at hsz;rw[hsz]at hconv;have HX:Hid (x.length=2):=h2;clear hsz h2;go_enter Tryz.func103,Tryz.ntmps103
 go_wp2
 go_loop [12,13,101] (λu n i=>∃k:Nat,k≤2∧u= .bool false∧i= .int .i64 (k:Nat)∧n= .int .u64 (yw (x.take k):Nat)) (λ_ _ i=>2-(intOf i).toNat)
 case atStart=>exact⟨0,Nat.zero_le _,rfl,rfl,rfl⟩
 case round =>
  obtain⟨k,hk,rfl,rfl,rfl⟩:=hrel;obtain⟨hv2,hv1'⟩:=hxl k hk HX.out
  obtain⟨V,hV⟩:∃V,V=yw (x.take k):=⟨_,rfl⟩
  rw[←hV]at hv2 hv1' ⊢;by_cases hlt:k<2
  ·have hlt':k<x.length:=by rw[HX.out];exact hlt
   have hc:=hcell k hlt';have hvb:=hv1' hlt;have hvt:=FQ x k hlt';rw[←hV]at hvt;have hhx:=gI (hf _ (List.getElem_mem hlt'));have HV:Hid (((yw (x.take (k+1)):Nat):Int)=16*(V:Int)+((hv1 x[k]:Nat):Int)):=by show((yw (x.take (k+1)):Nat):Int)=_;rw[hvt];omega
   have hlt2:((k:Nat):Int)<2:=by omega
   have hvi:(V:Int)≤15:=by omega
   clear hvt hV hv2 hv1' hcell hconv hxl hbel hf;generalize ((hv1 x[k]:Nat):Int)=y at hhx HV;generalize ((x[k].toNat:Nat):Int)=z at hc hhx HV;have hv0:(0:Int)≤(V:Int):=by omega
   generalize (V:Int)=Z at hvi hv0 HV ⊢;clear hvb;rcases hhx with⟨g1,g2,g3⟩|⟨g1,g2,g3⟩
   ·have e1:(z==95)=false:=by simp;omega
    subst g3
    go_wp2
    go_round
    case rel=>exact⟨k+1,by omega,rfl,by go_num,by rw[HV.out];go_num⟩
    case measure=>simp[intOf];omega
   ·have e1:(z==95)=false:=by simp;omega
    have hlow:=zbe z ⟨g1,g2⟩;subst g3
    go_wp2_with (first
     |((go_at_call 120)
       refine(hlow _).mono ?_;(rintro e w2 ⟨rfl,rfl⟩)))
    go_round
    case rel=>exact⟨k+1,by omega,rfl,by go_num,by rw[HV.out];go_num⟩
    case measure=>simp[intOf];omega
  ·have hlt2:¬((k:Nat):Int)<2:=by omega
   have hfull:x.take k=x:=List.take_of_length_le (by rw[HX.out];omega);rw[hfull]at hV;have HV:Hid (V=yw x):=hV;clear hfull hV hcell hconv hxl
   go_wp2
   go_ret2
   exact⟨by rw[HV.out];rfl,hbel⟩
theorem zaO(x:List UInt8)(w:World)(h2:x.length=2)(hf:∀c ∈ x,zG c=true):
 Calls Tryz.prog 96 #[.string (bs x),.int .i64 16,.int .i64 8] w λe w'=>e= .returned (.tuple #[.int .u64 (yw x:Nat),.nilIface])∧Below w.heap.size w w':=by
 have ha:=D5 x w h2 hf;go_enter Tryz.func96,Tryz.ntmps96
 go_wp2_with (go_at_call 103;refine ha.mono ?_;rintro e w' ⟨rfl,hb⟩)
 go_ret2
 exact⟨rfl,hb⟩
theorem YX:∀(i:Nat) (x:List UInt8),2*i+1<x.length→(qw x)[i]?=some (UInt8.ofNat (yw ((x.drop (2*i)).take 2)))
 |0,a::b::r,_=>by simp[qw,yw]
 |i+1,a::b::r,h=>by
  have:=YX i r (by simp at h;omega);simp only[qw,List.getElem?_cons_succ];rw[this,show 2*(i+1)=2*i+1+1 by omega];rfl
 |0,[],h=>by simp at h
 |0,[_],h=>by simp at h
 |i+1,[],h=>by simp at h
 |i+1,[_],h=>by simp at h
theorem Xq:∀(x:List UInt8),(qw x).length=x.length / 2
 |a::b::r=>by simp[qw,Xq r];omega
 | []=>rfl
 | [_]=>by simp[qw]
theorem ze{p:Prop}(h:p):Hid p:=h
theorem gF(x:List UInt8)(w:World)(hl:x.length=64)(hf:∀c ∈ x,zG c=true):Calls Tryz.prog 81 #[.string (bs x)] w λe w'=>∃v,e= .returned v∧dJ w w' v (qw x)∧Below w.heap.size w w':=by
 have hsz:=zJ x;rw[hl]at hsz;obtain⟨W1,hH1,hb1,hmk⟩:=DD 32 (by decide) w;have hget:∀i,i<32→(qw x)[i]?=some (UInt8.ofNat (yw ((x.drop (2*i)).take 2))):=λi hi=>YX i x (by omega)
 have hulen:(qw x).length=32:=by rw[Xq,hl]
 have hsub:∀i,i<32→((x.drop (2*i)).take 2).length=2∧∀c ∈ (x.drop (2*i)).take 2,zG c=true:=λi hi=>⟨by simp;omega,λc hc=>hf c (List.mem_of_mem_drop (List.mem_of_mem_take hc))⟩
 have hlt:∀i,i<32→yw ((x.drop (2*i)).take 2)≤255:=λi hi=>by
  have:=(gG ((x.drop (2*i)).take 2) (hsub i hi).2 2 (Nat.le_refl _) (hsub i hi).1).1
  rwa [List.take_of_length_le (by rw[(hsub i hi).1];exact Nat.le_refl _)]at this
 have HX:Hid (x.length=64):=hl;have HG:Hid (∀i,i<32→(qw x)[i]?=some (UInt8.ofNat (yw ((x.drop (2*i)).take 2)))):=hget;have HU:Hid ((qw x).length=32):=hulen;have HSu:Hid (∀i,i<32→((x.drop (2*i)).take 2).length=2∧∀c ∈ (x.drop (2*i)).take 2,zG c=true):=hsub;have HLt:Hid (∀i,i<32→yw ((x.drop (2*i)).take 2)≤255):=hlt;have h0:zm W1 w.heap.size 5 (jT .u8 32 λj=>if j<0 then yw ((x.drop (2*j)).take 2)else 0):=by simpa using hH1
 clear hl hget hulen hsub hlt hf hH1;go_enter Tryz.func81,Tryz.ntmps81
 go_wp2_with (first
  |((refine zi 10 rfl ?_)
    (refine jP (some 10) (.slice (some ⟨w.heap.size,0,none⟩) 32 32) W1 rfl (by rfl) (hmk _ _ _ _ rfl rfl rfl) ?_)))
 go_loopw [13] (λz wr=>∃i:Nat,z= .int .i64 (i:Nat)∧i≤32∧zm wr w.heap.size 5 (jT .u8 32 λj=>if j<i then yw ((x.drop (2*j)).take 2)else 0)∧Below w.heap.size w wr) (λz _=>32-(intOf z).toNat)
 case atStart=>exact⟨0,rfl,by omega,h0,hb1⟩
 case round =>
  obtain⟨i,rfl,hi,hH,hB⟩:=hrel;clear h0 hb1 hmk;by_cases hlt:i<32
  ·have hy:=HSu.out i hlt
   have hK:=HLt.out i hlt;have hex:(bs x).extract (2*i) (2*i+2)=bs ((x.drop (2*i)).take 2):=by rw[jt,Nat.add_sub_cancel_left]
   have hpu:=λW=>zaO _ W hy.1 hy.2
   have HN:Hid (yw ((x.drop (2*i)).take 2)=yw ((x.drop (2*i)).take 2)):=rfl;have hli:(i:Int)<32:=by omega
   have hset:=λW (h:zm W w.heap.size 5 (jT .u8 32 λj=>if j<i then yw ((x.drop (2*j)).take 2)else 0))=>h.set i (yw ((x.drop (2*i)).take 2))
   have hupd:jT .u8 32 (upd (λj=>if j<i then yw ((x.drop (2*j)).take 2)else 0) i (yw ((x.drop (2*i)).take 2)))=jT .u8 32 (λj=>if j<i+1 then yw ((x.drop (2*j)).take 2)else 0):=by
    refine X8 _ _ _ _ (λj hj=>?_);unfold upd;by_cases e:j=i
    ·subst e;rw[if_pos rfl,if_pos (by omega)]
    ·rw[if_neg e]
     show(if j<i then yw ((x.drop (2*j)).take 2)else 0)=_;by_cases e2:j<i
     ·rw[if_pos e2,if_pos (by omega)]
     ·rw[if_neg e2,if_neg (by omega)]
   have HU2:=ze hupd;have HSe:=ze hset;have cc:=hH.num i hlt;simp only[if_neg (Nat.lt_irrefl i)]at cc;have hlg:=hH.lt;generalize (x.drop (2*i)).take 2=y at hex hpu hK HSe HU2 cc;generalize yw y=K at hpu hK HSe HU2;have hKi:((K:Nat):Int)≤255:=by omega
   have hKi0:(0:Int)≤((K:Nat):Int):=by omega
   clear hupd hset hy HN
   go_wp2_with (first
    |((go_at_call 96)
      refine(hpu _).mono ?_;rintro e w2 ⟨rfl,hb2⟩;have cc2:=za hb2 cc;(have fr2:=(hH.below hb2 hlg).free i)))
   go_roundw
   case rel=>exact⟨i+1,by go_num,by omega,by rw[←HU2.out];exact HSe.out _ (hH.below hb2 hlg),(hB.trans (hb2.mono hB.size)).setCell (p:=⟨w.heap.size,i,none⟩) (Nat.le_refl _) _⟩
   case measure=>simp[intOf];omega
  ·obtain rfl:i=32:=by omega
   go_wp2
   go_ret
   refine⟨.slice (some ⟨w.heap.size,0,none⟩) 32 32,rfl,⟨some ⟨w.heap.size,0,none⟩,32,by rw[HU.out],by rw[HU.out];exact Nat.le_refl _,by unfold maxLen;omega,?_⟩,hB⟩;refine .inr ⟨w.heap.size,0,rfl,hH.lt,Nat.le_refl _,λj hj=>?_⟩;rw[HU.out]at hj;have:=hH.num j hj;rw[Nat.zero_add,this,if_pos hj];have hg:=HG.out j hj;have hk:=HLt.out j hj;rw[List.getElem?_eq_getElem (by rw[HU.out];exact hj)]at hg;injection hg with hg
   rw[hg]
   congr 2
   simp;omega
end
section
open Go.ChangeShapes Go.WideShapes Go.ChangeAt Go.RowKit Go.MapKept
variable {E:Nat→Prop}
def Fi(E:Nat→Prop)(w:World)(cb:Nat)(V:CV)(R:Except Er Ck)(e:Ending)(w':World):Prop:=vZ (V.own cb) w w'∧match R with
 | .error (ec,ek)=>e= .panicked (XT ec ek)
 | .ok c'=>e= .returned (.tuple #[])∧∃V',qq (λg=>E g∨w.heap.size≤g) w' cb V' c'∧jX cb V w V' w'
theorem y4{o:Oper}{a:Act}(x:Operand)(k:Int)(ho:o.op= .binOp .eql 3 x (.const (.int .i64 k)) 3)(K:Int)(hx:a.eval x= .int .i64 K)(b:Bool)(hb:(K==k)=b)(w:World):(execOp a.eval o).run Tryz.prog w= .ok (.value (.bool b)) w:=by
 unfold execOp;simp only[ho,hx];subst hb;go_simp
theorem Ho{w:World}{cb:Nat}{V:CV}{c:Ck}(h:qq E w cb V c)(n:Nd)(A:Option Addr)(L C:Nat)(hn:yH c.names c.parts):Calls Tryz.prog 61 #[.pointer (some ⟨cb,0,none⟩),.agg (qD n (.slice A L C))] w (Fi E w cb V (yA c n)):=by
 obtain⟨W1,hW1⟩:∃W1,W1=w.alloc (.cells #[.string (bs n.op),.string (bs n.s),.int .i64 n.n,.int .i64 n.a,.slice A L C] 24):=⟨_,rfl⟩
 have hb1:Below w.heap.size w W1:=by rw[hW1];exact zl w _
 have N1:zm W1 w.heap.size 24 #[.string (bs n.op),.string (bs n.s),.int .i64 n.n,.int .i64 n.a,.slice A L C]:=by rw[hW1];exact zm.new w _ _
 have h1:qq E W1 cb V c:=h.keep hb1;have HW:=ze hW1;have lcb:=h.has.lt;have c3:=h1.has.cell 3;have nc3:=N1.cell 3;simp only[qH,qG,qI]at c3 nc3;clear hW1;cases hx:c.expo with
 |some x0 =>
  have HR:=ze (show yA c n= .error (138,n.a) by unfold yA;rw[hx];rfl)
  have hxe:(jI c.expo== -1)=false:=by
   rw[hx,beq_eq_false_iff_ne];show((x0:Nat):Int)≠ -1;omega
  unfold qD;go_enter Tryz.func61,Tryz.ntmps61
  go_wp2
  rw[←HW.out];refine wp_region_held_drew (S:=λwz=>Below W1.heap.size W1 wz) (by kernel_rfl) ((Below.refl _ W1).drew) (λhHeld=>?_);refine zw 0 (some 4) (.pointer (some ⟨cb,0,none⟩)) hHeld ?_;simp only[Act.put,zh,zf,zg];refine zw 1 (some 5) (.pointer (some ⟨cb,0,none⟩)) hHeld ?_;simp only[Act.put,zh,zf,zg];refine zw 2 (some 6) (.pointer (some ⟨cb,0,none⟩)) hHeld ?_;simp only[Act.put,zh,zf,zg];refine zw 3 (some 7) (.pointer (some ⟨cb,3,none⟩)) hHeld ?_;simp only[Act.put,zh,zf,zg];refine zD 4 (some 8) (.int .i64 (jI c.expo)) rfl rfl (λwz hz=>by have z0:=za hz c3;unfold execOp;go_simp) hHeld ?_;simp only[Act.put,zh,zf,zg];refine zD 5 (some 9) (.bool false) rfl rfl (λwz _=>y4 _ (-1) rfl (jI c.expo) rfl false hxe wz) hHeld ?_;simp only[Act.put,zh,zf,zg];refine zw 6 (some 10) (.pointer (some ⟨w.heap.size,3,none⟩)) hHeld ?_;simp only[Act.put,zh,zf,zg];refine zD 7 (some 11) (.int .i64 n.a) rfl rfl (λwz hz=>by have z0:=za hz nc3;unfold execOp;go_simp) hHeld ?_;simp only[Act.put,zh,zf,zg];refine jn 8 (some 12) 62 #[.bool false,.int .i64 138,.int .i64 n.a] (by kernel_rfl) rfl rfl (by rfl) (by kernel_rfl) (jA 138 n.a W1.drew) ?_;rintro e w5 ⟨rfl,rfl⟩;refine .inr ⟨_,rfl,?_⟩;exact⟨rfl,(vZ.of hb1).drew,by rw[HR.out];rfl⟩
 |none =>
  have hxe:(jI c.expo== -1)=true:=by rw[hx];rfl
  have hk2:∀w2:World,Below W1.heap.size W1 w2→Calls Tryz.prog 79 #[.pointer (some ⟨cb,0,none⟩),.agg (qD n (.slice A L C)),.slice (some ⟨w2.heap.size,0,none⟩) 2 2] (w2.alloc (.cells #[.string ⟨#[100,101,118,105,99,101]⟩,.string ⟨#[118,111,108,117,109,101]⟩] 9)) (zcM (w2.alloc (.cells #[.string ⟨#[100,101,118,105,99,101]⟩,.string ⟨#[118,111,108,117,109,101]⟩] 9)) V cb (jk c.names n [zn,zB])):=λw2 hb=>Kq ((h1.keep hb).alloc _) n A L C [zn,zB] _ (.inr ⟨w2.heap.size,rfl,zm.new_at rfl⟩) (by simp)
  have hR:yA c n=match jk c.names n [zn,zB]with | .error e=> .error e| .ok m=> .ok { c with expo:=some m.node,ro:=decide (n.n=1)||(zR c.parts).getD m.node false,eat:=n.a }:=by unfold yA;rw[hx];rfl
  clear hx;cases hK:jk c.names n [zn,zB]with
  |error er =>
   obtain⟨ec,ek⟩:=er;rw[hK]at hk2 hR;have HR:=ze hR;clear hK hR;unfold qD at hk2 ⊢;go_enter Tryz.func61,Tryz.ntmps61
   go_wp2
   rw[←HW.out];refine wp_region_held_drew (S:=λwz=>Below W1.heap.size W1 wz) (by kernel_rfl) ((Below.refl _ W1).drew) (λhHeld=>?_);refine zw 0 (some 4) (.pointer (some ⟨cb,0,none⟩)) hHeld ?_;simp only[Act.put,zh,zf,zg];refine zw 1 (some 5) (.pointer (some ⟨cb,0,none⟩)) hHeld ?_;simp only[Act.put,zh,zf,zg];refine zw 2 (some 6) (.pointer (some ⟨cb,0,none⟩)) hHeld ?_;simp only[Act.put,zh,zf,zg];refine zw 3 (some 7) (.pointer (some ⟨cb,3,none⟩)) hHeld ?_;simp only[Act.put,zh,zf,zg];refine zD 4 (some 8) (.int .i64 (jI c.expo)) rfl rfl (λwz hz=>by have z0:=za hz c3;unfold execOp;go_simp) hHeld ?_;simp only[Act.put,zh,zf,zg];refine zD 5 (some 9) (.bool true) rfl rfl (λwz _=>y4 _ (-1) rfl (jI c.expo) rfl true hxe wz) hHeld ?_;simp only[Act.put,zh,zf,zg];refine zw 6 (some 10) (.pointer (some ⟨w.heap.size,3,none⟩)) hHeld ?_;simp only[Act.put,zh,zf,zg];refine zD 7 (some 11) (.int .i64 n.a) rfl rfl (λwz hz=>by have z0:=za hz nc3;unfold execOp;go_simp) hHeld ?_;simp only[Act.put,zh,zf,zg];refine jn 8 (some 12) 62 #[.bool true,.int .i64 138,.int .i64 n.a] (by kernel_rfl) rfl rfl (by rfl) (by kernel_rfl) (qL 138 n.a W1.drew) ?_;rintro e w5 ⟨rfl,rfl⟩;refine .inl ⟨_,rfl,hHeld,?_⟩;simp only[Act.put,zh,zf,zg];refine wpAnyH_done (by kernel_rfl) ?_ _;have hb2:Below W1.heap.size W1 W1.drew:=zr (Below.refl _ W1);have hkn:=hk2 _ hb2;have N2:=zt N1;clear hHeld hk2 c3 nc3;generalize W1.drew=W2 at *;have a0:=N2.cell 0;have a1:=N2.cell 1;have a2:=N2.cell 2;have a3:=N2.cell 3;have a4:=N2.cell 4;have al:=N2.lt;simp only[qH,qG,qI]at a0 a1 a2 a3 a4
   go_wp2_with (first
    |((go_at_call 79)
      refine hkn.mono ?_;(rintro e w5 ⟨hb5,rfl⟩)))
   exact⟨rfl,(vZ.of ((hb1.trans (hb2.mono hb1.size)).trans ((zl W2 _).mono (Nat.le_trans hb1.size hb2.size)))).trans (.of hb5),by rw[HR.out]⟩
  |ok m =>
   have hnd:=Q7 hn hK;rw[hK]at hk2 hR;have HR:=ze hR;clear hK hR;unfold qD at hk2 ⊢;go_enter Tryz.func61,Tryz.ntmps61
   go_wp2
   rw[←HW.out];refine wp_region_held_drew (S:=λwz=>Below W1.heap.size W1 wz) (by kernel_rfl) ((Below.refl _ W1).drew) (λhHeld=>?_);refine zw 0 (some 4) (.pointer (some ⟨cb,0,none⟩)) hHeld ?_;simp only[Act.put,zh,zf,zg];refine zw 1 (some 5) (.pointer (some ⟨cb,0,none⟩)) hHeld ?_;simp only[Act.put,zh,zf,zg];refine zw 2 (some 6) (.pointer (some ⟨cb,0,none⟩)) hHeld ?_;simp only[Act.put,zh,zf,zg];refine zw 3 (some 7) (.pointer (some ⟨cb,3,none⟩)) hHeld ?_;simp only[Act.put,zh,zf,zg];refine zD 4 (some 8) (.int .i64 (jI c.expo)) rfl rfl (λwz hz=>by have z0:=za hz c3;unfold execOp;go_simp) hHeld ?_;simp only[Act.put,zh,zf,zg];refine zD 5 (some 9) (.bool true) rfl rfl (λwz _=>y4 _ (-1) rfl (jI c.expo) rfl true hxe wz) hHeld ?_;simp only[Act.put,zh,zf,zg];refine zw 6 (some 10) (.pointer (some ⟨w.heap.size,3,none⟩)) hHeld ?_;simp only[Act.put,zh,zf,zg];refine zD 7 (some 11) (.int .i64 n.a) rfl rfl (λwz hz=>by have z0:=za hz nc3;unfold execOp;go_simp) hHeld ?_;simp only[Act.put,zh,zf,zg];refine jn 8 (some 12) 62 #[.bool true,.int .i64 138,.int .i64 n.a] (by kernel_rfl) rfl rfl (by rfl) (by kernel_rfl) (qL 138 n.a W1.drew) ?_;rintro e w5 ⟨rfl,rfl⟩;refine .inl ⟨_,rfl,hHeld,?_⟩;simp only[Act.put,zh,zf,zg];refine wpAnyH_done (by kernel_rfl) ?_ _;have hb2:Below W1.heap.size W1 W1.drew:=zr (Below.refl _ W1);have hkn:=hk2 _ hb2;have N2:=zt N1;clear hHeld hk2 c3 nc3;generalize W1.drew=W2 at *;have a0:=N2.cell 0;have a1:=N2.cell 1;have a2:=N2.cell 2;have a3:=N2.cell 3;have a4:=N2.cell 4;have al:=N2.lt;simp only[qH,qG,qI]at a0 a1 a2 a3 a4
   obtain⟨K,hKm⟩:∃K,K=m.node:=⟨_,rfl⟩
   have HKm:=ze hKm;have hb12:Below w.heap.size w W2:=hb1.trans (hb2.mono hb1.size);have HB:=ze (λw5 (hb5:Below (W2.alloc (.cells #[.string ⟨#[100,101,118,105,99,101]⟩,.string ⟨#[118,111,108,117,109,101]⟩] 9)).heap.size (W2.alloc (.cells #[.string ⟨#[100,101,118,105,99,101]⟩,.string ⟨#[118,111,108,117,109,101]⟩] 9)) w5)=>(hb12.trans ((zl W2 (.cells #[.string ⟨#[100,101,118,105,99,101]⟩,.string ⟨#[118,111,108,117,109,101]⟩] 9)).mono hb12.size)).trans (hb5.mono (by have:=hb12.size;simp;omega)));clear hKm
   go_wp2_with (first
    |((go_at_call 79)
      refine hkn.mono ?_;rintro e w5 ⟨hb5,Am,Cm,rfl,hm1,hm2,hbp⟩;unfold Uc;rw[←HKm.out];have hb05:=HB.out w5 hb5;have H5:=h.keep hb05;have N5:=N1.below (show Below W1.heap.size W1 w5 from(hb2.trans ((zl W2 (.cells #[.string ⟨#[100,101,118,105,99,101]⟩,.string ⟨#[118,111,108,117,109,101]⟩] 9)).mono hb2.size)).trans (hb5.mono (by have:=hb2.size;simp;omega))) N1.lt;have q3:=H5.has.cell 3;have f3:=H5.has.free 3;have l3:=H5.has.lt;(simp only[qH,qG,qI]at q3))
    |((refine zi 18 rfl ?_)
      (refine zd (some 18) (.int .i64 (K:Nat)) rfl (by rfl) (by kernel_rfl) ?_)))
   obtain⟨H3,S3⟩:=H5.put (c':={ c with expo:=some K }) 3 (.int .i64 (K:Nat)) (H5.has.putP 3 _) rfl rfl rfl;have S03:=(jX.of (cb:=cb) (V:=V) hb05).trans S3;have N3:=N5.other (p:=⟨cb,3,none⟩) (by show w.heap.size≠cb;omega) (.int .i64 (K:Nat));have hKP':K<c.parts.length:=by rw[HKm.out];exact hnd.1
   obtain⟨gb,ob,Cb,evb,hCb1,hCb2,hgb,hOn⟩:=H3.vo (by show 0<c.parts.length;omega);generalize w5.setCell ⟨cb,3,none⟩ (.int .i64 (K:Nat))=W3 at *;have q2:=N3.cell 2;have q6:=H3.has.cell 6;have q3:=H3.has.cell 3;have qB:=hOn K (by rw[vr];exact hKP');simp only[List.getElem?_toArray,List.getElem?_cons_zero,List.getElem?_cons_succ,evb]at q2 q3 q6;change W3.cell? ⟨cb,3,none⟩=some (.int .i64 (K:Nat))at q3;change W3.cell? ⟨gb,ob+K,none⟩=some (.bool ((zR c.parts).getD K false))at qB
   obtain⟨B,hB⟩:∃B,B=(zR c.parts).getD K false:=⟨_,rfl⟩
   rw[←hB]at qB
   obtain⟨NP,hNP⟩:∃NP,NP=c.parts.length:=⟨_,rfl⟩
   have hKP:K<NP:=by rw[hNP];exact hKP'
   change W3.cell? ⟨cb,6,none⟩=some (.slice (some ⟨gb,ob,none⟩) c.parts.length Cb)at q6;rw[←hNP]at q6;have HBo:=ze hB;clear hB hNP hKP' f3 l3 H5 hbp hm1 hm2 hb5 hOn hCb1 hCb2 evb a0 a1 a2 a3 a4 al hkn N5 N1 N2 h1 hb12 hb2 hb1 hb05 S3;by_cases hn1:n.n=1
   ·have HRO:=ze (show({ c with expo:=some m.node,ro:=decide (n.n=1)||(zR c.parts).getD m.node false,eat:=n.a }:Ck)= { c with expo:=some K,ro:=true,eat:=n.a } by rw[HKm.out,decide_eq_true hn1,Bool.true_or])
    have hn1:(n.n==1)=true:=by rw[hn1];rfl
    go_wp2
    refine jp (S:=λwz=>Below W3.heap.size W3 wz) 20 (by kernel_rfl) ((Below.refl _ W3).drew) (λhHeld=>?_);refine ja 0 (some 22) (.pointer (some ⟨cb,0,none⟩)) hHeld ?_;simp only[Act.put,zh,zf,zg];refine ja 1 (some 23) (.pointer (some ⟨w.heap.size,2,none⟩)) hHeld ?_;simp only[Act.put,zh,zf,zg];refine j3 2 (some 24) (.int .i64 n.n) rfl rfl (λwz hz=>by have z0:=za hz q2;unfold execOp;go_simp) hHeld ?_;simp only[Act.put,zh,zf,zg];refine j3 3 (some 25) (.bool true) rfl rfl (λwz _=>y4 _ 1 rfl n.n rfl true hn1 wz) hHeld ?_;simp only[Act.put,zh,zf,zg];refine ja 4 (some 26) (.bool true) hHeld ?_;simp only[Act.put,zh,zf,zg];refine ZW 5 (some 27) rfl rfl (by decide) (by kernel_rfl) (by kernel_rfl) (by kernel_rfl) (by kernel_rfl) (λ_ _ _ h=>h) (by rfl) hHeld ?_;simp only[Act.put,zh,zf,zg];refine ZW 6 (some 28) rfl rfl (by decide) (by kernel_rfl) (by kernel_rfl) (by kernel_rfl) (by kernel_rfl) (λ_ _ _ h=>h) (by rfl) hHeld ?_;simp only[Act.put,zh,zf,zg];refine ZW 7 (some 29) rfl rfl (by decide) (by kernel_rfl) (by kernel_rfl) (by kernel_rfl) (by kernel_rfl) (λ_ _ _ h=>h) (by rfl) hHeld ?_;simp only[Act.put,zh,zf,zg];refine ZW 8 (some 30) rfl rfl (by decide) (by kernel_rfl) (by kernel_rfl) (by kernel_rfl) (by kernel_rfl) (λ_ _ _ h=>h) (by rfl) hHeld ?_;simp only[Act.put,zh,zf,zg];refine ZW 9 (some 31) rfl rfl (by decide) (by kernel_rfl) (by kernel_rfl) (by kernel_rfl) (by kernel_rfl) (λ_ _ _ h=>h) (by rfl) hHeld ?_;simp only[Act.put,zh,zf,zg];refine ZW 10 (some 32) rfl rfl (by decide) (by kernel_rfl) (by kernel_rfl) (by kernel_rfl) (by kernel_rfl) (λ_ _ _ h=>h) (by rfl) hHeld ?_;simp only[Act.put,zh,zf,zg];refine ZW 11 (some 33) rfl rfl (by decide) (by kernel_rfl) (by kernel_rfl) (by kernel_rfl) (by kernel_rfl) (λ_ _ _ h=>h) (by rfl) hHeld ?_;simp only[Act.put,zh,zf,zg];refine ZW 12 (some 34) rfl rfl (by decide) (by kernel_rfl) (by kernel_rfl) (by kernel_rfl) (by kernel_rfl) (λ_ _ _ h=>h) (by rfl) hHeld ?_;simp only[Act.put,zh,zf,zg];refine ZW 13 (some 35) rfl rfl (by decide) (by kernel_rfl) (by kernel_rfl) (by kernel_rfl) (by kernel_rfl) (λ_ _ _ h=>h) (by rfl) hHeld ?_;simp only[Act.put,zh,zf,zg];refine ZW 14 (some 36) rfl rfl (by decide) (by kernel_rfl) (by kernel_rfl) (by kernel_rfl) (by kernel_rfl) (λ_ _ _ h=>h) (by rfl) hHeld ?_;simp only[Act.put,zh,zf,zg];refine ZW 15 (some 37) rfl rfl (by decide) (by kernel_rfl) (by kernel_rfl) (by kernel_rfl) (by kernel_rfl) (λ_ _ _ h=>h) (by rfl) hHeld ?_;simp only[Act.put,zh,zf,zg];refine j3 16 (some 38) (.bool true) rfl rfl (λ_ _=>by kernel_rfl) hHeld ?_;simp only[Act.put,zh,zf,zg];refine zV 17 (some 39) (.pointer (some ⟨cb,0,none⟩)) W3.drew (by kernel_rfl) rfl rfl (by rfl) rfl hHeld ?_;simp only[Act.put,zh,zf,zg];refine zV 18 (some 40) (.pointer (some ⟨cb,0,none⟩)) W3.drew (by kernel_rfl) rfl rfl (by rfl) rfl hHeld ?_;simp only[Act.put,zh,zf,zg];refine zV 19 (some 41) (.pointer (some ⟨cb,4,none⟩)) W3.drew (by kernel_rfl) rfl rfl (by rfl) rfl hHeld ?_;simp only[Act.put,zh,zf,zg];have H3d:=H3.keep (zr (Below.refl _ W3));have q4:=H3d.has.cell 4;have f4:=H3d.has.free 4;have l4:=H3d.has.lt;refine qC 20 none (W3.drew.setCell ⟨cb,4,none⟩ (.bool true)) (by kernel_rfl) rfl rfl (by rfl) (by unfold execOp;go_simp) (by kernel_rfl) ?_;simp only[Act.put];obtain⟨H4,S4⟩:=H3d.put (c':={ c with expo:=some K,ro:=true }) 4 (.bool true) (H3d.has.putP 4 _) rfl rfl rfl;have N4:=(zt N3).other (p:=⟨cb,4,none⟩) (by show w.heap.size≠cb;omega) (.bool true);have S34:jX cb V W3 V (W3.drew.setCell ⟨cb,4,none⟩ (.bool true)):=(jX.of (zr (Below.refl _ W3))).trans S4;generalize W3.drew.setCell ⟨cb,4,none⟩ (.bool true)=W4 at *;have a3:=N4.cell 3;have al:=N4.lt;have b7:=H4.has.cell 7;have e7:=H4.has.free 7;have bl:=H4.has.lt;simp only[qH,qG,qI]at a3 b7;clear q2 q3 q4 q6 qB f4 l4 H3d hHeld S4
    go_wp2
    go_end0
    obtain⟨H5,S5⟩:=H4.put (c':={ c with expo:=some K,ro:=true,eat:=n.a }) 7 (.int .i64 n.a) (H4.has.putP 7 _) rfl rfl rfl;have S05:=(S03.trans S34).trans S5;refine⟨S05.only,?_⟩;rw[HR.out];refine⟨rfl,V,?_,S05⟩;rw[HRO.out];exact H5.mono (λ_ _ _ he=> .inl he)
   ·have HRO:=ze (show({ c with expo:=some m.node,ro:=decide (n.n=1)||(zR c.parts).getD m.node false,eat:=n.a }:Ck)= { c with expo:=some K,ro:=B,eat:=n.a } by rw[HBo.out,HKm.out,decide_eq_false hn1,Bool.false_or])
    have hn1:(n.n==1)=false:=by rw[beq_eq_false_iff_ne];exact hn1
    go_wp2
    refine jp (S:=λwz=>Below W3.heap.size W3 wz) 20 (by kernel_rfl) ((Below.refl _ W3).drew) (λhHeld=>?_);refine ja 0 (some 22) (.pointer (some ⟨cb,0,none⟩)) hHeld ?_;simp only[Act.put,zh,zf,zg];refine ja 1 (some 23) (.pointer (some ⟨w.heap.size,2,none⟩)) hHeld ?_;simp only[Act.put,zh,zf,zg];refine j3 2 (some 24) (.int .i64 n.n) rfl rfl (λwz hz=>by have z0:=za hz q2;unfold execOp;go_simp) hHeld ?_;simp only[Act.put,zh,zf,zg];refine j3 3 (some 25) (.bool false) rfl rfl (λwz _=>y4 _ 1 rfl n.n rfl false hn1 wz) hHeld ?_;simp only[Act.put,zh,zf,zg];refine ja 4 (some 26) (.bool false) hHeld ?_;simp only[Act.put,zh,zf,zg];refine ja 5 (some 27) (.pointer (some ⟨cb,0,none⟩)) hHeld ?_;simp only[Act.put,zh,zf,zg];refine ja 6 (some 28) (.pointer (some ⟨cb,0,none⟩)) hHeld ?_;simp only[Act.put,zh,zf,zg];refine ja 7 (some 29) (.pointer (some ⟨cb,6,none⟩)) hHeld ?_;simp only[Act.put,zh,zf,zg];refine j3 8 (some 30) (.slice (some ⟨gb,ob,none⟩) NP Cb) rfl rfl (λwz hz=>by have z0:=za hz q6;unfold execOp;go_simp) hHeld ?_;simp only[Act.put,zh,zf,zg];refine ja 9 (some 31) (.pointer (some ⟨cb,0,none⟩)) hHeld ?_;simp only[Act.put,zh,zf,zg];refine ja 10 (some 32) (.pointer (some ⟨cb,0,none⟩)) hHeld ?_;simp only[Act.put,zh,zf,zg];refine ja 11 (some 33) (.pointer (some ⟨cb,0,none⟩)) hHeld ?_;simp only[Act.put,zh,zf,zg];refine ja 12 (some 34) (.pointer (some ⟨cb,3,none⟩)) hHeld ?_;simp only[Act.put,zh,zf,zg];refine j3 13 (some 35) (.int .i64 (K:Nat)) rfl rfl (λwz hz=>by have z0:=za hz q3;unfold execOp;go_simp) hHeld ?_;simp only[Act.put,zh,zf,zg];refine j3 14 (some 36) (.pointer (some ⟨gb,ob+K,none⟩)) rfl rfl (λwz _=>xU _ _ rfl gb ob K NP Cb rfl rfl hKP wz) hHeld ?_;simp only[Act.put,zh,zf,zg];refine j3 15 (some 37) (.bool B) rfl rfl (λwz hz=>by have z0:=za hz qB;unfold execOp;go_simp) hHeld ?_;simp only[Act.put,zh,zf,zg];refine j3 16 (some 38) (.bool B) rfl rfl (λ_ _=>by kernel_rfl) hHeld ?_;simp only[Act.put,zh,zf,zg];refine zV 17 (some 39) (.pointer (some ⟨cb,0,none⟩)) W3.drew (by kernel_rfl) rfl rfl (by rfl) rfl hHeld ?_;simp only[Act.put,zh,zf,zg];refine zV 18 (some 40) (.pointer (some ⟨cb,0,none⟩)) W3.drew (by kernel_rfl) rfl rfl (by rfl) rfl hHeld ?_;simp only[Act.put,zh,zf,zg];refine zV 19 (some 41) (.pointer (some ⟨cb,4,none⟩)) W3.drew (by kernel_rfl) rfl rfl (by rfl) rfl hHeld ?_;simp only[Act.put,zh,zf,zg];have H3d:=H3.keep (zr (Below.refl _ W3));have q4:=H3d.has.cell 4;have f4:=H3d.has.free 4;have l4:=H3d.has.lt;refine qC 20 none (W3.drew.setCell ⟨cb,4,none⟩ (.bool B)) (by kernel_rfl) rfl rfl (by rfl) (by unfold execOp;go_simp) (by kernel_rfl) ?_;simp only[Act.put];obtain⟨H4,S4⟩:=H3d.put (c':={ c with expo:=some K,ro:=B }) 4 (.bool B) (H3d.has.putP 4 _) rfl rfl rfl;have N4:=(zt N3).other (p:=⟨cb,4,none⟩) (by show w.heap.size≠cb;omega) (.bool B);have S34:jX cb V W3 V (W3.drew.setCell ⟨cb,4,none⟩ (.bool B)):=(jX.of (zr (Below.refl _ W3))).trans S4;generalize W3.drew.setCell ⟨cb,4,none⟩ (.bool B)=W4 at *;have a3:=N4.cell 3;have al:=N4.lt;have b7:=H4.has.cell 7;have e7:=H4.has.free 7;have bl:=H4.has.lt;simp only[qH,qG,qI]at a3 b7;clear q2 q3 q4 q6 qB f4 l4 H3d hHeld S4
    go_wp2
    go_end0
    obtain⟨H5,S5⟩:=H4.put (c':={ c with expo:=some K,ro:=B,eat:=n.a }) 7 (.int .i64 n.a) (H4.has.putP 7 _) rfl rfl rfl;have S05:=(S03.trans S34).trans S5;refine⟨S05.only,?_⟩;rw[HR.out];refine⟨rfl,V,?_,S05⟩;rw[HRO.out];exact H5.mono (λ_ _ _ he=> .inl he)
end
end Go.Proofs.YteaddcdpgcgggaaGreatDoor
