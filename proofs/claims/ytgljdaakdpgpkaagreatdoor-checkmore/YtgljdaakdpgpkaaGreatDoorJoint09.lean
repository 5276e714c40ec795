import Derived.Test.YtgljdaakdpgpkaaGreatDoorJoint08
import Derived.Ground.SlbCloneProg
import Derived.Shelf.Bytes.SlClone
import Derived.Shelf.Bytes.SlEqualAll
import Derived.Shelf.Bytes.Small
import Derived.Test.YtgljdaakdpgpkaaGreatDoorProg
import Derived.Test.YtgljdaakdpgpkaaGreatDoorJoint01
namespace Go.Proofs.YtgljdaakdpgpkaaGreatDoor
set_option linter.unusedVariables false
set_option maxRecDepth 100000
set_option maxHeartbeats 40000000
section
open Go.ChangeShapes Go.WideShapes Go.ChangeAt Go.RowKit Go.MapKept
variable {E:Nat→Prop}
def kj(ps:List Pt):Ck:=⟨[],none,ps,none,false,0,[]⟩
def jz:List Nd→Nat
 | []=>0
 |x::l=>(if x.op=zd∨x.op=zj then 1 else 0)+jz l
theorem XV(l:List Nd)(x:Nd):∀d,zV d (l++ [x])=zV d l++(if x.op=zd then[⟨1,x.n.toNat,[],d+jz l,0,0,[],[]⟩]else[]):=by
 induction l with
 |nil =>
  intro d;simp only[List.nil_append,zV,jz];by_cases h1:x.op=zd
  ·rw[if_pos h1,if_pos h1];rfl
  ·rw[if_neg h1,if_neg h1]
   by_cases h2:x.op=zj
   ·rw[if_pos h2]
   ·rw[if_neg h2]
 |cons y l ih =>
  intro d;simp only[List.cons_append,zV,jz];by_cases h1:y.op=zd
  ·simp only[if_pos h1,ih,List.cons_append,if_pos (show y.op=zd∨y.op=zj from .inl h1)]
   congr 2
   rw[show d+1+jz l=d+(1+jz l) by omega]
  ·rw[if_neg h1,if_neg h1]
   by_cases h2:y.op=zj
   ·rw[if_pos h2,if_pos h2,ih,if_pos (show y.op=zd∨y.op=zj from .inr h2)]
    rw[show d+1+jz l=d+(1+jz l) by omega]
   ·rw[if_neg h2,if_neg h2,ih,if_neg (show ¬(y.op=zd∨y.op=zj) by simp[h1,h2])]
    rw[Nat.zero_add]
theorem kU(l:List Nd)(x:Nd):jz (l++ [x])=jz l+(if x.op=zd∨x.op=zj then 1 else 0):=by
 induction l with
 |nil=>simp[jz]
 |cons y l ih=>simp only[List.cons_append,jz,ih];omega
theorem gH(l:List Nd):jz l≤l.length:=by
 induction l with
 |nil=>exact Nat.le_refl _
 |cons y l ih=>simp only[jz,List.length_cons];split<;>omega
theorem Gn(l:List Nd):∀d,(zV d l).length≤l.length:=by
 induction l with
 |nil=>intro d;exact Nat.le_refl _
 |cons y l ih =>
  intro d;simp only[zV]
  split
  ·simp;exact ih _
  ·split
   ·have:=ih (d+1);simp;omega
   ·have:=ih d;simp;omega
structure V0 (w0 w:World) (l:List Nd) (A:Option Addr) (C:Nat):Prop where
 rd:Rd w0 l (.slice A l.length C)
 bel:Below w0.heap.size w0 w
theorem V0.get{w0 w:World}{l:List Nd}{A:Option Addr}{C:Nat}(h:V0 w0 w l A C){i:Nat}(hi:i<l.length):∃g off An Cn,A=some ⟨g,off,none⟩∧g<w.heap.size∧QK w g (off+i*5) l[i] An Cn∧j0 w0 l[i] An Cn:=by
 obtain⟨g,off,u,e,hg,hc,hr,hs,ho⟩:=h.rd.get i hi;obtain⟨An,Cn,rfl,_,_⟩:=hr.slice;exact⟨g,off,An,Cn,e,Nat.lt_of_lt_of_le hg h.bel.size,λj hj=>(h.bel.cell (p:=⟨g,off+i*5+j,none⟩) hg).trans (hc j hj),hr,hs,ho⟩
theorem qT.below{cb:Nat}{V V':CV}{w w':World}{c:Ck}(h:zG E w cb V c)(s:qT cb V w V' w'):Below (cb-1) w w':=s.only.below (by have:=h.has.lt;omega) λk hk=>by have:=(h.low hk).1;omega
theorem Fg{w0 w:World}{cb:Nat}{V:CV}{l:List Nd}{A:Option Addr}{C:Nat}(h:zG E w cb V (kj []))(ht:V0 w0 w l A C)(hcb:w0.heap.size≤cb-1)(hl:l.length≤80000)(hn:∀x ∈ l,(x.op=zd→0≤x.n∧x.n≤999999999)):Calls Tryz.prog 36 #[.pointer (some ⟨cb,0,none⟩),.slice A l.length C] w λe w'=>e= .returned (.tuple #[])∧∃V',zG E w' cb V' (kj (zV 0 l))∧qT cb V w V' w':=by
 obtain⟨A',C',eAC,hlc,hcm⟩:=ht.rd.slice;cases eAC
 obtain⟨L,hL⟩:∃L,L=l.length:=⟨_,rfl⟩
 have HL:Hid (L=l.length):=hL;rw[←hL]at hlc hl ⊢;clear hL;go_enter Tryz.func36,Tryz.ntmps36
 go_wp2
 go_loopw [4,9] (λz4 z9 wr=>∃(i:Nat) (V':CV),z4= .int .i64 (jz (l.take i):Nat)∧z9= .int .i64 (i:Nat)∧i≤L∧zG E wr cb V' (kj (zV 0 (l.take i)))∧qT cb V w V' wr) (λ_ z _=>L-(intOf z).toNat)
 case atStart=>exact⟨0,V,by simp[jz],rfl,Nat.zero_le _,by simpa [zV]using h,qT.refl _ _ _⟩
 case round =>
  obtain⟨i,V2,rfl,rfl,hi,H2,S2⟩:=hrel;by_cases hlt:i<L
  ·have hil:i<l.length:=by rw[←HL.out];exact hlt
   have B2:=S2.below h
   have T2:V0 w0 wr l A C:=⟨ht.rd,ht.bel.trans (B2.mono hcb)⟩
   obtain⟨g,off,An,Cn,eA,hg,hat,hrn⟩:=T2.get hil;have hnl:=hn _ (List.getElem_mem hil)
   have HD:Hid (zV 0 (l.take (i+1))=zV 0 (l.take i)++(if l[i].op=zd then[⟨1,l[i].n.toNat,[],jz (l.take i),0,0,[],[]⟩]else[])):=by
    rw[List.take_succ_eq_append_getElem hil,XV,Nat.zero_add];exact rfl
   have HV:Hid (jz (l.take (i+1))=jz (l.take i)+(if l[i].op=zd∨l[i].op=zj then 1 else 0)):=by
    rw[List.take_succ_eq_append_getElem hil,kU];exact rfl
   have hdl:=gH (l.take i);have hpl:=Gn (l.take i) 0;have hil2:(l.take i).length≤i:=by simp;omega
   generalize l[i]=n at *
   obtain⟨D,hD⟩:∃D,D=jz (l.take i):=⟨_,rfl⟩
   obtain⟨ps,hps⟩:∃ps,ps=zV 0 (l.take i):=⟨_,rfl⟩
   rw[←hD]at HD HV hdl ⊢;rw[←hps]at HD H2 hpl;have hDb:(D:Int)≤80000:=by omega
   have hpsl:ps.length≤80000:=by omega
   have hint:(i:Int)<(L:Int):=by omega
   have hot:=zp n.op;have H3:=H2.alloc (.cells #[.string (bs n.op),.string (bs n.s),.int .i64 n.n,.int .i64 n.a,.slice An n.l.length Cn] 24);clear hD hps T2 hil;subst eA;by_cases hd:n.op=zd
   ·have f0:(n.op== [100,101,118,105,99,101])=true:=by rw[hd];decide
    have f1:(n.op== [106,111,117,114,110,97,108])=false:=by rw[hd];decide
    have hnn:=hnl hd
    obtain⟨M,hM⟩:∃M:Nat,n.n=(M:Nat):=⟨n.n.toNat,by omega⟩
    have e1:zV 0 (l.take (i+1))=ps++ [⟨1,M,[],D,0,0,[],[]⟩]:=by rw[HD.out,if_pos hd,hM,Int.toNat_natCast]
    have e2:jz (l.take (i+1))=D+1:=by rw[HV.out,if_pos (.inl hd)]
    have HE1:Hid (zV 0 (l.take (i+1))=ps++ [⟨1,M,[],D,0,0,[],[]⟩]):=e1;have HE2:Hid (jz (l.take (i+1))=D+1):=e2;have hadd:=J7 H3 ⟨1,M,[],D,0,0,[],[]⟩ none 0 none 0 none 0 ⟨⟨none,0,rfl,Nat.le_refl _,by unfold maxLen;omega,.inl rfl⟩,⟨none,0,rfl,Nat.le_refl _,by unfold maxLen;omega,.inl rfl⟩,⟨none,0,rfl,Nat.le_refl _,by unfold maxLen;omega,.inl rfl⟩⟩ (λk hk=>by cases hk) (by simp) (by simp) (by simp) (by show ps.length≤90000;omega);rw[hM]at hadd;simp only[List.length_nil]at hadd;have hat2:QK wr g (off+i*5) n An Cn:=hat;have hNM:Hid (n.n=(M:Nat)):=hM;clear e1 e2 hd hnl hnn HD HV hM
    go_wp2_with (first
    |((refine zb 11 rfl ?_)
      (refine zc (some 11) _ rfl (by rfl) (zK _ _ rfl g off i L C rfl rfl hlt wr) ?_))
    |((refine zb 12 rfl ?_)
      refine zc (some 12) _ rfl (by rfl) (qA _ rfl g (off+i*5) rfl wr hat) ?_;(unfold Zs))
    |((go_at_call 61)
      rw[hNM.out];refine hadd.mono ?_;(rintro e w5 ⟨rfl,V5,H5,S5⟩)))
    go_roundw
    case rel=>exact⟨i+1,V5,by rw[HE2.out];go_num,by go_num,by omega,by rw[HE1.out];exact H5,S2.trans ((qT.of (zh wr _)).trans S5)⟩
    case measure=>simp[intOf];omega
   ·have f0:(n.op== [100,101,118,105,99,101])=false:=by rw[beq_eq_false_iff_ne];exact hd
    by_cases hj:n.op=zj
    ·have f1:(n.op== [106,111,117,114,110,97,108])=true:=by rw[hj];decide
     have e1:zV 0 (l.take (i+1))=ps:=by rw[HD.out,if_neg hd,List.append_nil]
     have e2:jz (l.take (i+1))=D+1:=by rw[HV.out,if_pos (.inr hj)]
     have HE1:Hid (zV 0 (l.take (i+1))=ps):=e1;have HE2:Hid (jz (l.take (i+1))=D+1):=e2;clear e1 e2 hd hj hnl HD HV
     go_wp2_with (first
     |((refine zb 11 rfl ?_)
       (refine zc (some 11) _ rfl (by rfl) (zK _ _ rfl g off i L C rfl rfl hlt wr) ?_))
     |((refine zb 12 rfl ?_)
       refine zc (some 12) _ rfl (by rfl) (qA _ rfl g (off+i*5) rfl wr hat) ?_;(unfold Zs))
      )
     go_roundw
     case rel=>exact⟨i+1,V2,by rw[HE2.out];go_num,by go_num,by omega,by rw[HE1.out];exact H3,S2.trans (qT.of (zh wr _))⟩
     case measure=>simp[intOf];omega
    ·have f1:(n.op== [106,111,117,114,110,97,108])=false:=by rw[beq_eq_false_iff_ne];exact hj
     have e1:zV 0 (l.take (i+1))=ps:=by rw[HD.out,if_neg hd,List.append_nil]
     have e2:jz (l.take (i+1))=D:=by rw[HV.out,if_neg (by simp[hd,hj])];rfl
     have HE1:Hid (zV 0 (l.take (i+1))=ps):=e1;have HE2:Hid (jz (l.take (i+1))=D):=e2;clear e1 e2 hd hj hnl HD HV
     go_wp2_with (first
     |((refine zb 11 rfl ?_)
       (refine zc (some 11) _ rfl (by rfl) (zK _ _ rfl g off i L C rfl rfl hlt wr) ?_))
     |((refine zb 12 rfl ?_)
       refine zc (some 12) _ rfl (by rfl) (qA _ rfl g (off+i*5) rfl wr hat) ?_;(unfold Zs))
      )
     go_roundw
     case rel=>exact⟨i+1,V2,by rw[HE2.out],by go_num,by omega,by rw[HE1.out];exact H3,S2.trans (qT.of (zh wr _))⟩
     case measure=>simp[intOf];omega
  ·obtain rfl:i=L:=by omega
   have e1:l.take i=l:=by rw[HL.out,List.take_length]
   rw[e1]at H2
   go_wp2
   go_end0
   exact⟨rfl,V2,H2,S2⟩
end
section
open Go.ChangeShapes Go.WideShapes Go.ChangeAt Go.RowKit Go.MapKept
variable {E:Nat→Prop}
section
variable {w w6:World} {cb:Nat} {V:CV} {c c':Ck}
theorem zG.kept_set(h:zG E w cb V c)(j:Nat)(v:Value):∀ {k:Nat} {o:Obj},k≠cb→w.heap[k]?=some o→(w.setCell ⟨cb,j,none⟩ v).heap[k]?=some o:=λ{k o} h2 ho=>yC w _ _ h2 ho
theorem zG.put(h:zG E w cb V c)(j:Nat)(v:Value)(hh:zi (w.setCell ⟨cb,j,none⟩ v) cb 61 #[V.vd,.int .i64 (jI c'.jour),V.vp,.int .i64 (jI c'.expo),.bool c'.ro,.map (some V.mb),V.vb,.int .i64 c'.eat])(e1:c'.devs=c.devs)(e2:c'.parts=c.parts)(e3:c'.names=c.names):
 zG E (w.setCell ⟨cb,j,none⟩ v) cb V c'∧qT cb V w V (w.setCell ⟨cb,j,none⟩ v):=by
 have hst:qT cb V w V (w.setCell ⟨cb,j,none⟩ v):=⟨(j9.refl _ w).set (.inl (.inl rfl)) _,λk hk=> .inl hk⟩
 obtain⟨us,q1,r1,i1⟩:=h.prts;obtain⟨ms,q2,r2,i2⟩:=h.nms;have hin:=hst.innerE (E:=E);have hsz:=hst.only.size;refine⟨⟨hh,?_,?_,?_,?_,by rw[e3];exact h.uniq,h.mlt,by rw[e1,e2,e3];exact h.few⟩,hst⟩
 ·rw[e1]
  exact zE h.devs (λg o e ho=>h.kept_set j v (by rintro rfl;exact zD h.devs h.has (by decide) e) ho)
 ·rw[e2]
  exact zE h.only (λg o e ho=>h.kept_set j v (by rintro rfl;exact zD h.only h.has (by decide) e) ho)
 ·rw[e2]
  exact⟨us,q1,zE r1 (λg o e ho=>h.kept_set j v (by rintro rfl;exact zD r1 h.has (by decide) e) ho),λi a b=>(i1 i a b).keep hsz hin⟩
 ·rw[e3]
  exact⟨ms,q2,h.kept_set j v (by intro e;have hh:w.heap[cb]?=some (.cells _ _ (0,0)):=h.has;rw[e]at r2;rw[r2]at hh;cases hh) r2,λi a b=>(i2 i a b).keep hsz hin⟩
theorem zG.putDev(h:zG E w cb V c){A6:Option Addr}{C6 d:Nat}(hg:w.grownBy w6 V.vd.ownBlock)(hr:w6.ownsRow cb 3 1 (.slice A6 (c.devs.length+1) C6) (c.devs.length+1) ((c.devs.map λd=> .int .i64 (d:Nat))++ [.int .i64 (d:Nat)]))(hw:(Value.slice A6 (c.devs.length+1) C6).ownBlock=V.vd.ownBlock∨(Value.slice A6 (c.devs.length+1) C6).ownBlock=some w.heap.size)(hl:c.devs.length≤90000):
 zG E (w6.setCell ⟨cb,0,none⟩ (.slice A6 (c.devs.length+1) C6)) cb { V with vd:= .slice A6 (c.devs.length+1) C6 } { c with devs:=c.devs++ [d] }∧qT cb V w { V with vd:= .slice A6 (c.devs.length+1) C6 } (w6.setCell ⟨cb,0,none⟩ (.slice A6 (c.devs.length+1) C6)):=by
 obtain⟨us,e1,hp,hpi⟩:=h.prts;obtain⟨ms,e2,hm,hmi⟩:=h.nms
 have hst:qT cb V w { V with vd:= .slice A6 (c.devs.length+1) C6 } (w6.setCell ⟨cb,0,none⟩ (.slice A6 (c.devs.length+1) C6)):=by
  refine⟨(⟨hg.os,hg.tape,hg.output,hg.size,λk hk hn=>hg.block k hk (λe=>hn (.inr (.inl e.symm)))⟩:j9 (V.own cb) w w6).set (.inl (.inl rfl)) _,λk hk=>?_⟩;rcases hk with e|e|e|e|e
  ·exact .inl (.inl e)
  ·rcases hw with q|q
   ·exact .inl (.inr (.inl (q ▸ e)))
   ·rw[show(Value.slice A6 (c.devs.length+1) C6).ownBlock=some w.heap.size from q]at e
    cases e;exact .inr (Nat.le_refl _)
  ·exact .inl (.inr (.inr (.inl e)))
  ·exact .inl (.inr (.inr (.inr (.inl e))))
  ·exact .inl (.inr (.inr (.inr (.inr e))))
 have hcb:V.vd.ownBlock≠some cb:=zD h.devs h.has (by decide);have kept:∀ {k:Nat} {o:Obj},V.vd.ownBlock≠some k→k≠cb→w.heap[k]?=some o→(w6.setCell ⟨cb,0,none⟩ (.slice A6 (c.devs.length+1) C6)).heap[k]?=some o:=λ{k o} h1 h2 ho=>yC w6 _ _ h2 ((hg.block k (Array.getElem?_eq_some_iff.1 ho).1 (λe=>h1 e.symm)).trans ho)
 have hin:=hst.innerE (E:=E);have hsz:=hst.only.size;refine⟨⟨(zI h.has hg hcb).putP 0 _,?_,zE h.only (λg o e ho=>kept (vV h.devs h.only (by decide) e) (by rintro rfl;exact zD h.only h.has (by decide) e) ho),⟨us,e1,zE hp (λg o e ho=>kept (vV h.devs hp (by decide) e) (by rintro rfl;exact zD hp h.has (by decide) e) ho),λi a b=>(hpi i a b).keep hsz hin⟩,⟨ms,e2,kept (vY h.devs hm) (by rintro e;have hh:w.heap[cb]?=some (.cells _ _ (0,0)):=h.has;rw[show V.mb=cb from e]at hm;rw[hm]at hh;cases hh) hm,λi a b=>(hmi i a b).keep hsz hin⟩,h.uniq,h.mlt,h.few.1,h.few.2.1,by simp;omega⟩,hst⟩;rw[List.length_append,List.length_singleton,List.map_append,List.map_cons,List.map_nil]
 refine zE hr (λg o e ho=>yC w6 _ _ (by
  show g≠cb;rintro rfl;rcases hw with q|q
  ·exact hcb (q ▸ e)
  ·rw[q]at e
   cases e
   exact absurd h.has.lt (Nat.lt_irrefl _)) ho)
def setObj(w:World)(b:Nat)(o:Obj):World:={ w with heap:=w.heap.setIfInBounds b o }
theorem JH(w:World){b k:Nat}(o:Obj)(h:k≠b):(setObj w b o).heap[k]?=w.heap[k]?:=by simp[setObj,Ne.symm h]
theorem Uy(w:World){b:Nat}(o:Obj)(h:b<w.heap.size):(setObj w b o).heap[b]?=some o:=by simp[setObj,h]
theorem KE(w:World)(b:Nat)(o:Obj){F:Nat→Prop}(h:F b):j9 F w (setObj w b o):=⟨rfl,rfl,rfl,by simp[setObj],λk hk hn=>JH w o (by rintro rfl;exact hn h)⟩
theorem zG.putName(h:zG E w cb V c){us:List Value}(e2:us.length=c.names.length)(hm:w.heap[V.mb]?=some (.map (ja c.names us).toArray c.names.length))(hmi:∀i (h:i<c.names.length) (h':i<us.length),VB w (λg=>¬V.own cb g∧E g) c.names[i].2 us[i])(s:List UInt8)(m:Mn)(u:Value)(hn:∀x ∈ c.names,x.1≠s)(hu:VB w (λg=>¬V.own cb g∧E g) m u)(hl:c.names.length≤90000):
 zG E (setObj w V.mb (.map (ja (c.names++ [(s,m)]) (us++ [u])).toArray (c.names.length+1))) cb V { c with names:=c.names++ [(s,m)] }∧qT cb V w V (setObj w V.mb (.map (ja (c.names++ [(s,m)]) (us++ [u])).toArray (c.names.length+1))):=by
 generalize hO:(Obj.map (ja (c.names++ [(s,m)]) (us++ [u])).toArray (c.names.length+1))=O
 have hst:qT cb V w V (setObj w V.mb O):=⟨KE w V.mb O (.inr (.inr (.inr (.inr rfl)))),λk hk=> .inl hk⟩
 obtain⟨vs,e1,hp,hpi⟩:=h.prts;have hin:=hst.innerE (E:=E);have hsz:=hst.only.size;have hlt:V.mb<w.heap.size:=(Array.getElem?_eq_some_iff.1 hm).1;have kept:∀ {k:Nat} {o:Obj},k≠V.mb→w.heap[k]?=some o→(setObj w V.mb O).heap[k]?=some o:=λ{k o} h2 ho=>(JH w O h2).trans ho
 have hcb:cb≠V.mb:=by
  intro e;have hh:w.heap[cb]?=some (.cells _ _ (0,0)):=h.has;rw[e,hm]at hh;cases hh
 refine⟨⟨kept hcb h.has,zE h.devs (λg o e ho=>kept (by rintro rfl;exact vY h.devs hm e) ho),zE h.only (λg o e ho=>kept (by rintro rfl;exact vY h.only hm e) ho),⟨vs,e1,zE hp (λg o e ho=>kept (by rintro rfl;exact vY hp hm e) ho),λi a b=>(hpi i a b).keep hsz hin⟩,⟨us++ [u],by simp[e2],?_,?_⟩,?_,h.mlt,h.few.1,by simp;omega,h.few.2.2⟩,hst⟩
 ·show(setObj w V.mb O).heap[V.mb]?=_
  rw[Uy w O hlt,←hO];simp
 ·intro i a b
  by_cases hi:i<c.names.length
  ·simp only[List.getElem_append_left hi,List.getElem_append_left (show i<us.length by omega)]
   exact(hmi i hi (by omega)).keep hsz hin
  ·have :i=c.names.length:=by simp at a;omega
   subst this;have q1:(c.names++ [(s,m)])[c.names.length]'a=(s,m):=by rw[List.getElem_append_right (Nat.le_refl _)];simp
   have q2:(us++ [u])[c.names.length]'b=u:=by rw[List.getElem_append_right (by omega)];simp[e2]
   simp only[q1,q2];exact hu.keep hsz hin
 ·exact List.pairwise_append.2 ⟨h.uniq,List.pairwise_singleton _ _,λa ha b hb=>by rw[List.mem_singleton.1 hb];exact hn a ha⟩
end
theorem Kb{o:Oper}{a:Act}(x y z:Operand)(ho:o.op= .mapUpdate 58 x y z){w:World}{mb:Nat}{ns:vL}{us:List Value}(hb:w.heap[mb]?=some (.map (ja ns us).toArray ns.length))(h:us.length=ns.length)(hu:ns.Pairwise (λx y=>x.1≠y.1))(s:List UInt8)(m:Mn)(u:Value)(hn:lk ns s=none)(hx:a.eval x= .map (some mb))(hy:a.eval y= .string (bs s))(hz:a.eval z=Yb m u):(execOp a.eval o).run Tryz.prog w= .ok .skip (setObj w mb (.map (ja (ns++ [(s,m)]) (us++ [u])).toArray (ns.length+1))):=by
 have hk:IsKey .string (.string (bs s)):=trivial;unfold execOp;simp only[ho,hx,hy,hz];rw[←Uf h s m u];rcases JZ h hu s with⟨g1,g2⟩|⟨i,hi,g1,g2,g3⟩
 ·have hr:=MapKept.run_findKey (P:=Tryz.prog) (w:=w) Tryz.underlying9 g1
  simp[Instr.mapUpdate,run_underlying Tryz.underlying58,MapKept.run_getObj_map hb,MapKept.run_checkKey Tryz.underlying9 hk,hr,MapKept.run_setObj_map _ hb,Result.andThen];rfl
 ·rw[hn]at g2;cases g2
end
section
open Go.Shelf
def Tryz.laysSlK4_ren:Go.Shelf.Ren:=⟨λ |4=>145|n=>n,λ |22=>45|4=>4|5=>5|n=>n,λ |n=>n⟩
theorem Tryz.laysSlK4:Go.Proofs.SlLaysK.n4 Tryz.prog Tryz.laysSlK4_ren:={
 mixed:=by kernel_rfl
 f4:=Tryz.func145.trans (congrArg some (by kernel_rfl))
 t4:=Tryz.underlying4
 a4:=Tryz.isAgg4
 z4:=Tryz.sizeOf4
 v4:=Tryz.zeroValue4
 t22:=Tryz.underlying45
 a22:=Tryz.isAgg45
 z22:=Tryz.sizeOf45
 v22:=Tryz.zeroValue45
 t5:=Tryz.underlying5
 i5:=by kernel_rfl }
open Go.RowKit Go.Lib in
theorem Tryz.bytes_Clone_at(a:Addr)(n c:Nat)(xs:List Int)(w:World)(hx:xs.length=n)(hbig:n≤140737488355328)(hc:∀i,i<n→w.cell? (a.add i)=some (.int .u8 (xs.getD i 0))):
 Calls Tryz.prog 145 #[.slice (some a) n c] w λe w'=>∃v',e= .returned v'∧w'.ownsRow w.heap.size 5 1 v' n (xs.map (Value.int .u8))∧v'≠ .slice none 0 0∧Below w.heap.size w w':=Any.bytes_Clone_at Tryz.laysSlK4 a n c xs w hx hbig hc
open Go.RowKit Go.Lib in
theorem Tryz.bytes_Clone_nil(n c:Nat)(w:World):
 Calls Tryz.prog 145 #[.slice none n c] w λe w'=>e= .returned (.slice none 0 0)∧w'=w:=Any.bytes_Clone_nil Tryz.laysSlK4 n c w
def Tryz.laysnb115_ren:Go.Shelf.Ren:=⟨λ |115=>132|n=>n,λ |37=>45|4=>4|9=>9|5=>5|n=>n,λ |n=>n⟩
theorem Tryz.laysnb115:Go.Proofs.Lays.nb115 Tryz.prog Tryz.laysnb115_ren:={
 mixed:=by kernel_rfl
 f115:=Tryz.func132.trans (congrArg some (by kernel_rfl))
 t4:=Tryz.underlying4
 a4:=Tryz.isAgg4
 z4:=Tryz.sizeOf4
 v4:=Tryz.zeroValue4
 t9:=Tryz.underlying9
 a9:=Tryz.isAgg9
 z9:=Tryz.sizeOf9
 v9:=Tryz.zeroValue9
 t37:=Tryz.underlying45
 a37:=Tryz.isAgg45
 z37:=Tryz.sizeOf45
 v37:=Tryz.zeroValue45
 t5:=Tryz.underlying5
 a5:=Tryz.isAgg5
 z5:=Tryz.sizeOf5
 v5:=Tryz.zeroValue5 }
theorem Tryz.bytes_Equal_all(p1 p2:Option Addr)(n c m d:Nat)(xs ys:List Int)(w:World)(hx:xs.length=n)(hy:ys.length=m)(h1:Lib.BytesIn w p1 n xs)(h2:Lib.BytesIn w p2 m ys):
 Calls Tryz.prog 132 #[.slice p1 n c,.slice p2 m d] w λe w'=>e= .returned (.bool (Lib.bytesOf xs==Lib.bytesOf ys))∧w'=w:=Any.bytes_Equal_all Tryz.laysnb115 p1 p2 n c m d xs ys w hx hy h1 h2
end
section
open Go.ChangeShapes Go.WideShapes Go.ChangeAt Go.RowKit Go.MapKept
variable {E:Nat→Prop}
def fq(w w':World)(v:Value)(l:List UInt8):Prop:=∃A C,v= .slice A l.length C∧l.length≤C∧C≤maxLen∧ya w' (λg=>w.heap.size≤g) A l
theorem Ff{w:World}{P:Nat→Prop}{A:Option Addr}{C:Nat}{l:List UInt8}(h:ya w P A l)(hl:l.length≤1000):Calls Tryz.prog 145 #[.slice A l.length C] w λe w'=>∃v,e= .returned v∧fq w w' v l∧Below w.heap.size w w':=by
 cases A with
 |none =>
  have he:l= []:=by
   rcases h with h|⟨b,off,e,_⟩
   ·exact h
   ·cases e
  subst he;refine(Tryz.bytes_Clone_nil 0 C w).mono ?_;rintro e w' ⟨rfl,rfl⟩;exact⟨_,rfl,⟨none,0,rfl,Nat.le_refl _,by unfold maxLen;omega,.inl rfl⟩,Below.refl _ _⟩
 |some a =>
  refine(Tryz.bytes_Clone_at a l.length C (l.map λb=>((b.toNat:Nat):Int)) w (by simp) (by omega) (λi hi=>?_)).mono ?_
  ·rcases h with h|⟨b,off,e,hb,_,hc⟩
   ·rw[h]at hi;simp at hi
   ·cases e
    have:=hc i hi;rw[show(⟨b,off,none⟩:Addr).add i=⟨b,off+i,none⟩ by simp[Addr.add],this];simp[List.getD_eq_getElem?_getD,hi]
  ·rintro e w' ⟨v',rfl,hr,hne,hb⟩
   refine⟨v',rfl,?_,hb⟩;rcases hr.2 with⟨e,h0⟩|⟨g,cap,cur,rfl,hg,hh,hn,hm,hs,ht⟩
   ·exact absurd e hne
   ·refine⟨_,cap,rfl,hn,hm,?_⟩
    by_cases hl0:l= []
    ·exact .inl hl0
    ·refine .inr ⟨g,0,rfl,(Array.getElem?_eq_some_iff.1 hh).1,hg,λj hj=>?_⟩
     rw[Nat.zero_add,cell_of_row w' g j cur _ _ hh,←Array.getElem?_toList];have e1:(cur.toList.take (l.length*1))[j]?=cur.toList[j]?:=List.getElem?_take_of_lt (by omega);rw[←e1,ht];simp[hj]
def Dw(w:World)(R:Except Er Mn)(e:Ending)(w':World):Prop:=Below w.heap.size w w'∧match R with
 | .error (c,k)=>e= .panicked (Vi c k)
 | .ok m=>∃v,e= .returned v∧fq w w' v m.bytes
theorem Q7{w:World}{cb:Nat}{V:CV}{c:Ck}(h:zG E w cb V c)(n:Nd)(A:Option Addr)(C:Nat)(hr:j0 w n A C)(hl:2≤n.l.length)(wd:List UInt8)(hby:∀x ∈ c.names,x.2.bytes.length≤1000):Calls Tryz.prog 131 #[.pointer (some ⟨cb,0,none⟩),.agg (qa n (.slice A n.l.length C)),.string (bs wd)] w (Dw w (qm c.names (vn n.l 1) [wd])):=by
 obtain⟨g,off,Au,Cu,rfl,hg,hat⟩:=yN hr (by omega);obtain⟨hat1,_⟩:=hat 1 (by omega);have hlen:=hr.len
 obtain⟨L,hL⟩:∃L,L=n.l.length:=⟨_,rfl⟩
 rw[←hL]at hl hlen ⊢;generalize vn n.l 1=m1 at hat1 ⊢
 obtain⟨W1,hW1⟩:∃W1,W1=(w.alloc (.cells #[.string (bs n.op),.string (bs n.s),.int .i64 n.n,.int .i64 n.a,.slice (some ⟨g,off,none⟩) L C] 24)).alloc (.cells #[.string (bs wd)] 9):=⟨_,rfl⟩
 have hb1:Below w.heap.size w W1:=by rw[hW1];exact vh w _ _
 have hkn:=Vv (h.keep hb1) m1 (Au 1) m1.l.length (Cu 1) [wd] (.slice (some ⟨w.heap.size+1,0,none⟩) 1 1) (.inr ⟨w.heap.size+1,rfl,by rw[hW1];exact zi.new_at (by simp)⟩) (by simp);have hat2:QK (w.alloc (.cells #[.string (bs n.op),.string (bs n.s),.int .i64 n.n,.int .i64 n.a,.slice (some ⟨g,off,none⟩) L C] 24)) g (off+1*5) m1 (Au 1) (Cu 1):=hat1.grow (zh w _) hg;rw[hW1]at hkn;have HW:Hid (W1=(w.alloc (.cells #[.string (bs n.op),.string (bs n.s),.int .i64 n.n,.int .i64 n.a,.slice (some ⟨g,off,none⟩) L C] 24)).alloc (.cells #[.string (bs wd)] 9)):=hW1;clear hW1 hL;have hmem:=λm (e:qm c.names m1 [wd]= .ok m)=>hby _ (yB e).1
 have hli:(1:Int)<(L:Int):=by omega
 have hCm:L≤C∧C≤9223372036854775807:=hlen;cases hK:qm c.names m1 [wd]with
 |error er =>
  obtain⟨ec,ek⟩:=er;rw[hK]at hkn;clear hK hmem hlen hr h;unfold qa at hkn ⊢;go_enter Tryz.func131,Tryz.ntmps131
  go_wp2_with (first
   |((refine zb 11 rfl ?_)
     refine zc (some 11) _ rfl (by rfl) (qA _ rfl g (off+1*5) rfl _ hat2) ?_;(unfold Zs))
   |((go_at_call 80)
     refine hkn.mono ?_;(rintro e w2 ⟨hb2,rfl⟩)))
  rw[←HW.out]at hb2;exact⟨rfl,hb1.trans (hb2.mono hb1.size),rfl⟩
 |ok m =>
  have hml:=hmem m hK;rw[hK]at hkn;clear hK hmem hlen hr h;unfold qa at hkn ⊢;go_enter Tryz.func131,Tryz.ntmps131
  go_wp2_with (first
   |((refine zb 11 rfl ?_)
     refine zc (some 11) _ rfl (by rfl) (qA _ rfl g (off+1*5) rfl _ hat2) ?_;(unfold Zs))
   |((go_at_call 80)
     refine hkn.mono ?_;rintro e w2 ⟨hb2,Am,Cm,rfl,hm1,hm2,hbp⟩;(unfold Yb))
   |((refine zb 15 rfl ?_)
     (refine zc (some 15) (.slice Am m.bytes.length Cm) rfl (by rfl) (by kernel_rfl) ?_))
   |((go_at_call 145)
     refine(Ff hbp hml).mono ?_;(rintro e w3 ⟨v3,rfl,hN,hb3⟩)))
  go_ret
  rw[←HW.out]at hb2;have hb02:Below w.heap.size w w2:=hb1.trans (hb2.mono hb1.size);refine⟨hb02.trans (hb3.mono hb02.size),v3,rfl,?_⟩;obtain⟨A',C',e1,e2,e3,e4⟩:=hN;exact⟨A',C',e1,e2,e3,e4.keep (Nat.le_refl _) (λk hk hB=>⟨rfl,Nat.le_trans hb02.size hB⟩)⟩
end
section
open Go.ChangeShapes Go.WideShapes Go.ChangeAt Go.RowKit Go.MapKept
variable {E:Nat→Prop}
def yH(w:World)(R:Except Er Pt)(e:Ending)(w':World):Prop:=Below w.heap.size w w'∧match R with
 | .error (c,k)=>e= .panicked (Vi c k)
 | .ok p=>∃u,e= .returned (.agg (Us p u))∧Zt w' (λg=>w.heap.size≤g) p u
theorem vA{fn:Func}{R:Ending→World→Prop}{a:Act}{W:World}{s g:Nat}{x0 x1 x2 x3 x4 x5 x6 x7:Value}(hr:fn.results= #[.cell s 47])(hs:a.tmps[s]?.getD undef= .pointer (some ⟨g,0,none⟩))(hH:zi W g 47 #[x0,x1,x2,x3,x4,x5,x6,x7])(hd:a.defers= [])(h:R (.returned (.agg #[x0,x1,x2,x3,x4,x5,x6,x7])) W):bodyPost Tryz.prog fn R .ret a W:=by
 have q0:=hH.cell 0;have q1:=hH.cell 1;have q2:=hH.cell 2;have q3:=hH.cell 3;have q4:=hH.cell 4;have q5:=hH.cell 5;have q6:=hH.cell 6;have q7:=hH.cell 7;exact bodyPost_ret (by simp only[results,hr];simp[hs,go_sem,q0,q1,q2,q3,q4,q5,q6,q7]) hd h
abbrev Jw(W:World)(g:Nat)(x0 x1 x2 x3 x4 x5 x6 x7:Value):World:=(((((((W.setCell ⟨g,0,none⟩ x0).setCell ⟨g,1,none⟩ x1).setCell ⟨g,2,none⟩ x2).setCell ⟨g,3,none⟩ x3).setCell ⟨g,4,none⟩ x4).setCell ⟨g,5,none⟩ x5).setCell ⟨g,6,none⟩ x6).setCell ⟨g,7,none⟩ x7
theorem zi.set8{w:World}{g t:Nat}{a0 a1 a2 a3 a4 a5 a6 a7:Value}(h:zi w g t #[a0,a1,a2,a3,a4,a5,a6,a7])(x0 x1 x2 x3 x4 x5 x6 x7:Value):zi (Jw w g x0 x1 x2 x3 x4 x5 x6 x7) g t #[x0,x1,x2,x3,x4,x5,x6,x7]:=by
 have h0:zi _ g t #[x0,a1,a2,a3,a4,a5,a6,a7]:=h.putP 0 x0;have h1:zi _ g t #[x0,x1,a2,a3,a4,a5,a6,a7]:=h0.putP 1 x1;have h2:zi _ g t #[x0,x1,x2,a3,a4,a5,a6,a7]:=h1.putP 2 x2;have h3:zi _ g t #[x0,x1,x2,x3,a4,a5,a6,a7]:=h2.putP 3 x3;have h4:zi _ g t #[x0,x1,x2,x3,x4,a5,a6,a7]:=h3.putP 4 x4;have h5:zi _ g t #[x0,x1,x2,x3,x4,x5,a6,a7]:=h4.putP 5 x5;have h6:zi _ g t #[x0,x1,x2,x3,x4,x5,x6,a7]:=h5.putP 6 x6;have h7:zi _ g t #[x0,x1,x2,x3,x4,x5,x6,x7]:=h6.putP 7 x7;exact h7
theorem KG{w W:World}{B g:Nat}(h:Below B w W)(hg:B≤g)(x0 x1 x2 x3 x4 x5 x6 x7:Value):Below B w (Jw W g x0 x1 x2 x3 x4 x5 x6 x7):=(((((((h.setCell (p:=⟨g,0,none⟩) hg x0).setCell (p:=⟨g,1,none⟩) hg x1).setCell (p:=⟨g,2,none⟩) hg x2).setCell (p:=⟨g,3,none⟩) hg x3).setCell (p:=⟨g,4,none⟩) hg x4).setCell (p:=⟨g,5,none⟩) hg x5).setCell (p:=⟨g,6,none⟩) hg x6).setCell (p:=⟨g,7,none⟩) hg x7
theorem Y1{w:World}{cb:Nat}{V:CV}{c:Ck}(h:zG E w cb V c)(n:Nd)(A:Option Addr)(C:Nat)(hr:j0 w n A C)(hl:2≤n.l.length)(ho:n.op=qk)(size:Nat)(hsz:size≤8192)(hby:∀x ∈ c.names,x.2.bytes.length≤1000):Calls Tryz.prog 108 #[.pointer (some ⟨cb,0,none⟩),.agg (qa n (.slice A n.l.length C)),.int .i64 (size:Nat)] w (yH w (qv c.names n size [])):=by
 have hcs:qv c.names n size []=match qm c.names (vn n.l 1) [qj]with | .error e=> .error e| .ok m=>if dI size=0 then .error (134,n.a)else .ok ⟨7,dI size,[],0,0,0,m.bytes,[]⟩:=by
  unfold qv;rw[if_neg (by rw[ho];decide),if_pos ho];rfl
 rw[hcs];have f0:(n.op== [99,114,121,112,116])=false:=by rw[ho];decide
 have f1:(n.op== [105,110,116,101,103,114,105,116,121])=true:=by rw[ho];decide
 have hot:=zp n.op
 obtain⟨W2,hW2⟩:∃W2,W2=(w.alloc (.cells #[.string (bs n.op),.string (bs n.s),.int .i64 n.n,.int .i64 n.a,.slice A n.l.length C] 24)).alloc (.cells #[.int .i64 0,.int .i64 0,.slice none 0 0,.int .i64 0,.int .i64 0,.int .i64 0,.slice none 0 0,.slice none 0 0] 47):=⟨_,rfl⟩
 have hb2:Below w.heap.size w W2:=by rw[hW2];exact vh w _ _
 have P2:zi W2 (w.heap.size+1) 47 #[.int .i64 0,.int .i64 0,.slice none 0 0,.int .i64 0,.int .i64 0,.int .i64 0,.slice none 0 0,.slice none 0 0]:=by rw[hW2];exact zi.new_at (by simp)
 have N2:zi W2 w.heap.size 24 #[.string (bs n.op),.string (bs n.s),.int .i64 n.n,.int .i64 n.a,.slice A n.l.length C]:=by rw[hW2];exact(zi.new w _ _).alloc _
 have hsec:=Q7 (h.keep hb2) n A C (hr.grow hb2) hl qj hby;rw[show bs qj=⟨#[107,101,121]⟩from rfl]at hsec;have hdat:=λW=>Yn size W hsz
 rw[hW2]at hsec;have HW:Hid (W2=(w.alloc (.cells #[.string (bs n.op),.string (bs n.s),.int .i64 n.n,.int .i64 n.a,.slice A n.l.length C] 24)).alloc (.cells #[.int .i64 0,.int .i64 0,.slice none 0 0,.int .i64 0,.int .i64 0,.int .i64 0,.slice none 0 0,.slice none 0 0] 47)):=hW2;clear hW2 hcs h hr hl ho;generalize n.l.length=L at *;cases hK:qm c.names (vn n.l 1) [qj]with
 |error er =>
  obtain⟨ec,ek⟩:=er;rw[hK]at hsec;clear hK;unfold qa at hsec ⊢;go_enter Tryz.func108,Tryz.ntmps108
  go_wp2_with (first
   |((go_at_call 131)
     refine hsec.mono ?_;(rintro e w3 ⟨hb3,rfl⟩)))
  rw[←HW.out]at hb3;exact⟨rfl,hb2.trans (hb3.mono hb2.size),rfl⟩
 |ok m =>
  have hml:=hby _ (yB hK).1;rw[hK]at hsec;clear hK
  have HD:Hid (∀r,vB 8192 (Ju tg size) r→r=dI size):=(λr hr=>hr.eq (QU _ _):∀r,vB 8192 (Ju tg size) r→r=dI size)
  generalize dI size=D at HD ⊢;unfold qa at hsec ⊢;by_cases hD0:D=0
  ·subst hD0
   simp only[if_true];go_enter Tryz.func108,Tryz.ntmps108
   go_wp2_with (first
    |((go_at_call 131)
      refine hsec.mono ?_;rintro e w3 ⟨hb3,v3,rfl,hN⟩;rw[←HW.out]at hb3;have N3:=N2.below hb3 N2.lt;have nc3:=N3.cell 3;(have ln3:=N3.lt))
    |((go_at_call 133)
      refine(hdat _).mono ?_;rintro e w4 ⟨r,rfl,hgr,hb4⟩;obtain rfl:r=0:=HD.out r hgr;(have nc4:=za hb4 nc3))
    |((go_at_call 63)
      refine(qx 134 n.a _).mono ?_;(rintro e w5 ⟨rfl,rfl⟩)))
   exact⟨rfl,(hb2.trans (hb3.mono hb2.size)).trans (hb4.mono (Nat.le_trans hb2.size hb3.size)),rfl⟩
  ·simp only[if_neg hD0]
   have hDn:decide (0<D)=true:=decide_eq_true (by omega);clear hD0;go_enter Tryz.func108,Tryz.ntmps108
   go_wp2_with (first
    |((go_at_call 131)
      refine hsec.mono ?_;rintro e w3 ⟨hb3,v3,rfl,Ab,Cb,rfl,e2,e3,hBy⟩;rw[←HW.out]at hb3 hBy;have N3:=N2.below hb3 N2.lt;have nc3:=N3.cell 3;(have ln3:=N3.lt))
    |((go_at_call 133)
      refine(hdat _).mono ?_;rintro e w4 ⟨r,rfl,hgr,hb4⟩;obtain rfl:D=r:=(HD.out r hgr).symm;have nc4:=za hb4 nc3;have P3:=(P2.below hb3 P2.lt).below hb4 (P2.below hb3 P2.lt).lt;have lp3:=P3.lt;have a0:=P3.cell 0;have b0:=P3.free 0;have a1:=P3.cell 1;have b1:=P3.free 1;have a2:=P3.cell 2;have b2:=P3.free 2;have a3:=P3.cell 3;have b3:=P3.free 3;have a4:=P3.cell 4;have b4:=P3.free 4;have a5:=P3.cell 5;have b5:=P3.free 5;have a6:=P3.cell 6;have b6:=P3.free 6;have a7:=P3.cell 7;(have b7:=P3.free 7))
    |((go_at_call 63)
      refine(zX 134 n.a _).mono ?_;rintro e w5 ⟨rfl,hw5⟩;(obtain rfl:w4=w5:=hw5.symm)))
   have hb04:Below w.heap.size w w4:=(hb2.trans (hb3.mono hb2.size)).trans (hb4.mono (Nat.le_trans hb2.size hb3.size));have hbf:=KG (g:=w.heap.size+1) hb04 (Nat.le_succ _) (.int .i64 7) (.int .i64 (D:Nat)) (.slice none 0 0) (.int .i64 0) (.int .i64 0) (.int .i64 0) (.slice Ab m.bytes.length Cb) (.slice none 0 0);refine vA rfl rfl (P3.set8 _ _ _ _ _ _ _ _) rfl ⟨hbf,(.slice none 0 0,.slice Ab m.bytes.length Cb,.slice none 0 0),rfl,?_⟩
   have KB:ya (Jw w4 (w.heap.size+1) (.int .i64 7) (.int .i64 (D:Nat)) (.slice none 0 0) (.int .i64 0) (.int .i64 0) (.int .i64 0) (.slice Ab m.bytes.length Cb) (.slice none 0 0)) (λg=>w.heap.size≤g) Ab m.bytes:=hBy.keep (by simpa using hb4.size) (λk hk hB=>⟨by
    have hk2:k≠w.heap.size+1:=by have:=P2.lt;omega
    unfold Jw
    iterate 8 rw[Below.heap_setCell _ _ _ k hk2]
    exact hb4.block k hk,Nat.le_trans hb2.size hB⟩)
   exact⟨⟨none,0,rfl,Nat.le_refl _,by unfold maxLen;omega,.inl rfl⟩,⟨Ab,Cb,rfl,e2,e3,KB⟩,⟨none,0,rfl,Nat.le_refl _,by unfold maxLen;omega,.inl rfl⟩⟩
theorem Gk{w:World}{cb:Nat}{V:CV}{c:Ck}(h:zG E w cb V c)(n:Nd)(A:Option Addr)(C:Nat)(hr:j0 w n A C)(hl:2≤n.l.length)(ho:n.op=js)(size:Nat)(hsz:size≤8192)(hby:∀x ∈ c.names,x.2.bytes.length≤1000):Calls Tryz.prog 108 #[.pointer (some ⟨cb,0,none⟩),.agg (qa n (.slice A n.l.length C)),.int .i64 (size:Nat)] w (yH w (qv c.names n size [])):=by
 have hcs:qv c.names n size []=match qm c.names (vn n.l 1) [zS]with | .error e=> .error e| .ok m=>if dV size=0 then .error (134,n.a)else .ok ⟨8,dV size,[],0,0,0,[],m.bytes⟩:=by
  unfold qv;rw[if_neg (by rw[ho];decide),if_neg (by rw[ho];decide)];rfl
 rw[hcs];have f0:(n.op== [99,114,121,112,116])=false:=by rw[ho];decide
 have f1:(n.op== [105,110,116,101,103,114,105,116,121])=false:=by rw[ho];decide
 have hot:=zp n.op
 obtain⟨W2,hW2⟩:∃W2,W2=(w.alloc (.cells #[.string (bs n.op),.string (bs n.s),.int .i64 n.n,.int .i64 n.a,.slice A n.l.length C] 24)).alloc (.cells #[.int .i64 0,.int .i64 0,.slice none 0 0,.int .i64 0,.int .i64 0,.int .i64 0,.slice none 0 0,.slice none 0 0] 47):=⟨_,rfl⟩
 have hb2:Below w.heap.size w W2:=by rw[hW2];exact vh w _ _
 have P2:zi W2 (w.heap.size+1) 47 #[.int .i64 0,.int .i64 0,.slice none 0 0,.int .i64 0,.int .i64 0,.int .i64 0,.slice none 0 0,.slice none 0 0]:=by rw[hW2];exact zi.new_at (by simp)
 have N2:zi W2 w.heap.size 24 #[.string (bs n.op),.string (bs n.s),.int .i64 n.n,.int .i64 n.a,.slice A n.l.length C]:=by rw[hW2];exact(zi.new w _ _).alloc _
 have hsec:=Q7 (h.keep hb2) n A C (hr.grow hb2) hl zS hby;rw[show bs zS=⟨#[114,111,111,116]⟩from rfl]at hsec;have hdat:=λW=>gr size W hsz
 rw[hW2]at hsec;have HW:Hid (W2=(w.alloc (.cells #[.string (bs n.op),.string (bs n.s),.int .i64 n.n,.int .i64 n.a,.slice A n.l.length C] 24)).alloc (.cells #[.int .i64 0,.int .i64 0,.slice none 0 0,.int .i64 0,.int .i64 0,.int .i64 0,.slice none 0 0,.slice none 0 0] 47)):=hW2;clear hW2 hcs h hr hl ho;generalize n.l.length=L at *;cases hK:qm c.names (vn n.l 1) [zS]with
 |error er =>
  obtain⟨ec,ek⟩:=er;rw[hK]at hsec;clear hK;unfold qa at hsec ⊢;go_enter Tryz.func108,Tryz.ntmps108
  go_wp2_with (first
   |((go_at_call 131)
     refine hsec.mono ?_;(rintro e w3 ⟨hb3,rfl⟩)))
  rw[←HW.out]at hb3;exact⟨rfl,hb2.trans (hb3.mono hb2.size),rfl⟩
 |ok m =>
  have hml:=hby _ (yB hK).1;rw[hK]at hsec;clear hK
  have HD:Hid (∀r,vB 2048 (Ju hs size) r→r=dV size):=(λr hr=>hr.eq (QU _ _):∀r,vB 2048 (Ju hs size) r→r=dV size)
  generalize dV size=D at HD ⊢;unfold qa at hsec ⊢;by_cases hD0:D=0
  ·subst hD0
   simp only[if_true];go_enter Tryz.func108,Tryz.ntmps108
   go_wp2_with (first
    |((go_at_call 131)
      refine hsec.mono ?_;rintro e w3 ⟨hb3,v3,rfl,hN⟩;rw[←HW.out]at hb3;have N3:=N2.below hb3 N2.lt;have nc3:=N3.cell 3;(have ln3:=N3.lt))
    |((go_at_call 134)
      refine(hdat _).mono ?_;rintro e w4 ⟨r,rfl,hgr,hb4⟩;obtain rfl:r=0:=HD.out r hgr;(have nc4:=za hb4 nc3))
    |((go_at_call 63)
      refine(qx 134 n.a _).mono ?_;(rintro e w5 ⟨rfl,rfl⟩)))
   exact⟨rfl,(hb2.trans (hb3.mono hb2.size)).trans (hb4.mono (Nat.le_trans hb2.size hb3.size)),rfl⟩
  ·simp only[if_neg hD0]
   have hDn:decide (0<D)=true:=decide_eq_true (by omega);clear hD0;go_enter Tryz.func108,Tryz.ntmps108
   go_wp2_with (first
    |((go_at_call 131)
      refine hsec.mono ?_;rintro e w3 ⟨hb3,v3,rfl,Ab,Cb,rfl,e2,e3,hBy⟩;rw[←HW.out]at hb3 hBy;have N3:=N2.below hb3 N2.lt;have nc3:=N3.cell 3;(have ln3:=N3.lt))
    |((go_at_call 134)
      refine(hdat _).mono ?_;rintro e w4 ⟨r,rfl,hgr,hb4⟩;obtain rfl:D=r:=(HD.out r hgr).symm;have nc4:=za hb4 nc3;have P3:=(P2.below hb3 P2.lt).below hb4 (P2.below hb3 P2.lt).lt;have lp3:=P3.lt;have a0:=P3.cell 0;have b0:=P3.free 0;have a1:=P3.cell 1;have b1:=P3.free 1;have a2:=P3.cell 2;have b2:=P3.free 2;have a3:=P3.cell 3;have b3:=P3.free 3;have a4:=P3.cell 4;have b4:=P3.free 4;have a5:=P3.cell 5;have b5:=P3.free 5;have a6:=P3.cell 6;have b6:=P3.free 6;have a7:=P3.cell 7;(have b7:=P3.free 7))
    |((go_at_call 63)
      refine(zX 134 n.a _).mono ?_;rintro e w5 ⟨rfl,hw5⟩;(obtain rfl:w4=w5:=hw5.symm)))
   have hb04:Below w.heap.size w w4:=(hb2.trans (hb3.mono hb2.size)).trans (hb4.mono (Nat.le_trans hb2.size hb3.size));have hbf:=KG (g:=w.heap.size+1) hb04 (Nat.le_succ _) (.int .i64 8) (.int .i64 (D:Nat)) (.slice none 0 0) (.int .i64 0) (.int .i64 0) (.int .i64 0) (.slice none 0 0) (.slice Ab m.bytes.length Cb);refine vA rfl rfl (P3.set8 _ _ _ _ _ _ _ _) rfl ⟨hbf,(.slice none 0 0,.slice none 0 0,.slice Ab m.bytes.length Cb),rfl,?_⟩
   have KB:ya (Jw w4 (w.heap.size+1) (.int .i64 8) (.int .i64 (D:Nat)) (.slice none 0 0) (.int .i64 0) (.int .i64 0) (.int .i64 0) (.slice none 0 0) (.slice Ab m.bytes.length Cb)) (λg=>w.heap.size≤g) Ab m.bytes:=hBy.keep (by simpa using hb4.size) (λk hk hB=>⟨by
    have hk2:k≠w.heap.size+1:=by have:=P2.lt;omega
    unfold Jw
    iterate 8 rw[Below.heap_setCell _ _ _ k hk2]
    exact hb4.block k hk,Nat.le_trans hb2.size hB⟩)
   exact⟨⟨none,0,rfl,Nat.le_refl _,by unfold maxLen;omega,.inl rfl⟩,⟨none,0,rfl,Nat.le_refl _,by unfold maxLen;omega,.inl rfl⟩,⟨Ab,Cb,rfl,e2,e3,KB⟩⟩
end
section
open Go.ChangeShapes Go.WideShapes Go.ChangeAt Go.RowKit Go.MapKept
variable {E:Nat→Prop}
theorem Zq{w:World}{base e size n:Nat}{v:Value}{xs:List Value}(h:w.ownsRow base e size v n xs)(hn:0<n):∃g C,v= .slice (some ⟨g,0,none⟩) n C∧n≤C∧C≤maxLen∧g<w.heap.size∧base≤g∧∀j,j<n*size→w.cell? ⟨g,j,none⟩=xs[j]?:=by
 rcases h.2 with⟨_,h0⟩|⟨g,cap,cur,rfl,hg,hh,hn',hm,hs,ht⟩
 ·omega
 ·refine⟨g,cap,rfl,hn',hm,(Array.getElem?_eq_some_iff.1 hh).1,hg,λj hj=>?_⟩
  rw[cell_of_row w g j cur _ _ hh,←Array.getElem?_toList,←ht];exact(List.getElem?_take_of_lt hj).symm
theorem QD(l:List Pt):∀(us:List (Value×Value×Value)) (h:us.length=l.length) (k:Nat) (hk:k<l.length) (j:Nat),j<8→(U8 l us)[k*8+j]?=(Us l[k] (us[k]'(by omega)))[j]?:=by
 induction l with
 |nil=>intro us h k hk;simp at hk
 |cons p l ih =>
  intro us h k hk j hj;cases us with
  |nil=>simp at h
  |cons u us =>
   have h':us.length=l.length:=by simpa using h
   have e:U8 (p::l) (u::us)=(Us p u).toList++U8 l us:=rfl;rw[e];have h8:(Us p u).toList.length=8:=rfl;cases k with
   |zero =>
    rw[Nat.zero_mul,Nat.zero_add,List.getElem?_append_left (by rw[h8];exact hj)];rw[Array.getElem?_toList];rfl
   |succ k =>
    rw[List.getElem?_append_right (by rw[h8];omega),h8,show(k+1)*8+j-8=k*8+j by omega];exact ih us h' k (by simpa using hk) j hj
theorem U5(ps:List Pt){k:Nat}(hk:k<ps.length):sz ps k=ps[k].size:=by
 unfold sz zz;rw[List.getD_eq_getElem?_getD,List.getElem?_eq_getElem hk];rfl
def GL(w:World)(g off:Nat)(ps:List Pt):Prop:=∀k,k<ps.length→w.cell? ⟨g,off+k*8+1,none⟩=some (.int .i64 (sz ps k:Nat))
theorem zG.vp{w:World}{cb:Nat}{V:CV}{c:Ck}(h:zG E w cb V c)(hn:0<c.parts.length):∃g off C,V.vp= .slice (some ⟨g,off,none⟩) c.parts.length C∧c.parts.length≤C∧C≤maxLen∧g<w.heap.size∧GL w g off c.parts:=by
 obtain⟨us,e1,hp,_⟩:=h.prts;obtain⟨g,C,e,h1,h2,h3,_,h4⟩:=Zq hp hn;refine⟨g,0,C,e,h1,h2,h3,λk hk=>?_⟩;rw[show 0+k*8+1=k*8+1 by omega,h4 (k*8+1) (by omega),QD _ us e1 k hk 1 (by decide),U5 _ hk];rfl
def gZ(w:World)(g off:Nat)(os:List Bool):Prop:=∀k,k<os.length→w.cell? ⟨g,off+k,none⟩=some (.bool (os.getD k false))
theorem zG.vo{w:World}{cb:Nat}{V:CV}{c:Ck}(h:zG E w cb V c)(hn:0<c.parts.length):∃g off C,V.vb= .slice (some ⟨g,off,none⟩) c.parts.length C∧c.parts.length≤C∧C≤maxLen∧g<w.heap.size∧gZ w g off (zF c.parts):=by
 obtain⟨g,C,e,h1,h2,h3,_,h4⟩:=Zq h.only hn;refine⟨g,0,C,e,h1,h2,h3,λk hk=>?_⟩;have hl:k<c.parts.length:=by rw[jx]at hk;exact hk
 rw[Nat.zero_add,h4 k (by omega),List.getElem?_map,List.getElem?_eq_getElem hk,List.getD_eq_getElem?_getD,List.getElem?_eq_getElem hk];rfl
theorem GL.below{w w':World}{B g off:Nat}{ps:List Pt}(h:GL w g off ps)(hb:Below B w w')(hg:g<B):GL w' g off ps:=λk hk=>(hb.cell (p:=⟨g,off+k*8+1,none⟩) hg).trans (h k hk)
theorem gZ.below{w w':World}{B g off:Nat}{os:List Bool}(h:gZ w g off os)(hb:Below B w w')(hg:g<B):gZ w' g off os:=λk hk=>(hb.cell (p:=⟨g,off+k,none⟩) hg).trans (h k hk)
theorem qz{o:Oper}{a:Act}(x i:Operand)(ho:o.op= .indexAddr 29 x i)(g off k n cap:Nat)(hx:a.eval x= .slice (some ⟨g,off,none⟩) n cap)(hi:a.eval i= .int .i64 (k:Nat))(hk:k<n)(w:World):(execOp a.eval o).run Tryz.prog w= .ok (.value (.pointer (some ⟨g,off+k,none⟩))) w:=y8 29 x i ho g off k n cap 3 hx hi Tryz.underlying29 (by kernel_rfl) hk w
theorem Z0{o:Oper}{a:Act}(x i:Operand)(ho:o.op= .indexAddr 59 x i)(g off k n cap:Nat)(hx:a.eval x= .slice (some ⟨g,off,none⟩) n cap)(hi:a.eval i= .int .i64 (k:Nat))(hk:k<n)(w:World):(execOp a.eval o).run Tryz.prog w= .ok (.value (.pointer (some ⟨g,off+k,none⟩))) w:=y8 59 x i ho g off k n cap 4 hx hi Tryz.underlying59 (by kernel_rfl) hk w
theorem kC{o:Oper}{a:Act}(x y:Operand)(ho:o.op= .binOp .eql 3 x y 3)(p q:Nat)(hx:a.eval x= .int .i64 (p:Nat))(hy:a.eval y= .int .i64 (q:Nat))(w:World):(execOp a.eval o).run Tryz.prog w= .ok (.value (.bool (p==q))) w:=by
 have e:((p:Int)==(q:Int))=(p==q):=by rw[Bool.eq_iff_iff];simp;omega
 unfold execOp;simp only[ho,hx,hy];rw[←e];go_simp
theorem GQ{o:Oper}{a:Act}(x y:Operand)(ho:o.op= .binOp .quo 3 x y 3)(p q:Nat)(hx:a.eval x= .int .i64 ((p*q:Nat):Int))(hy:a.eval y= .int .i64 (q:Nat))(hq:0<q)(hp:p*q≤1000000)(w:World):(execOp a.eval o).run Tryz.prog w= .ok (.value (.int .i64 (p:Nat))) w:=by
 have e:((p*q:Nat):Int).tdiv (q:Int)=(p:Int):=by
  rw[←Int.ofNat_tdiv,Nat.mul_div_cancel _ hq]
 have hq':¬((q:Nat):Int)=0:=by omega
 have hle:p≤1000000:=by
  have:=Nat.le_mul_of_pos_right p hq;omega
 unfold execOp;simp only[ho,hx,hy];generalize ((p*q:Nat):Int)=X at *;generalize ((q:Nat):Int)=Q at *;go_simp;exact IntWalk.i64_in _ (by omega)
def KT:Except Er Pt→Except Er Pt
 | .error e=> .error e
 | .ok p=> .ok { p with kids:= [] }
def XZ(ps:List Pt)(n:Nd)(ks:List Nat):Except Er Pt:=
 if n.op=qE then
  if(ks.map (sz ps)).sum≤8192 then .ok ⟨3,(ks.map (sz ps)).sum,ks,0,0,0,[],[]⟩else .error (134,n.a)
 else if ks.all (λk=>sz ps k==sz ps (ks.getD 0 0))then .ok ⟨4,sz ps (ks.getD 0 0),ks,0,0,0,[],[]⟩else .error (134,n.a)
end
section
open Go.ChangeShapes Go.WideShapes Go.ChangeAt Go.RowKit
theorem Fc(z:Int)(h:97≤z∧z≤102)(w:World):Calls Tryz.prog 121 #[.int .u8 z] w λe w'=>e= .returned (.int .u8 z)∧w'=w:=by
 have hz:z=97∨z=98∨z=99∨z=100∨z=101∨z=102:=by omega
 rcases hz with rfl|rfl|rfl|rfl|rfl|rfl
 all_goals
  go_enter Tryz.func121,Tryz.ntmps121
  go_wp2
  go_ret
  exact⟨rfl,rfl⟩
def j8(l:List UInt8):Nat:=l.foldl (λn c=>16*n+hv1 c) 0
theorem kP(x:List UInt8)(k:Nat)(h:k<x.length):j8 (x.take (k+1))=16*j8 (x.take k)+hv1 x[k]:=by
 unfold j8;rw[List.take_succ_eq_append_getElem h,List.foldl_append];rfl
theorem KZ{c:UInt8}(h:zo c=true):(48≤((c.toNat:Nat):Int)∧((c.toNat:Nat):Int)≤57∧((hv1 c:Nat):Int)=(c.toNat:Int)-48)∨(97≤((c.toNat:Nat):Int)∧((c.toNat:Nat):Int)≤102∧((hv1 c:Nat):Int)=(c.toNat:Int)-87):=by
 unfold zo zl at h;unfold hv1;simp only[Bool.or_eq_true,Bool.and_eq_true,decide_eq_true_eq]at h;rcases h with⟨h1,h2⟩|⟨h1,h2⟩
 ·refine .inl ⟨by omega,by omega,?_⟩
  rw[if_neg (by omega)];omega
 ·refine .inr ⟨by omega,by omega,?_⟩
  rw[if_pos (by omega)];omega
theorem uA{c:UInt8}(h:zo c=true):hv1 c≤15:=by
 rcases KZ h with⟨h1,h2,h3⟩|⟨h1,h2,h3⟩<;>omega
theorem KY(x:List UInt8)(hf:∀c ∈ x,zo c=true)(k:Nat)(hk:k≤2)(h2:x.length=2):j8 (x.take k)≤255∧(k<2→j8 (x.take k)≤15):=by
 match x,h2 with
 | [a,b],_ =>
   have ha:=uA (hf a (by simp));have hb:=uA (hf b (by simp));have :k=0∨k=1∨k=2:=by omega
   rcases this with rfl|rfl|rfl
   ·simp[j8]
   ·simp[j8];omega
   ·simp[j8];omega
theorem G8(x:List UInt8)(w:World)(h2:x.length=2)(hf:∀c ∈ x,zo c=true):
 Calls Tryz.prog 104 #[.string (bs x),.int .i64 16,.int .i64 8] w λe w'=>e= .returned (.tuple #[.int .u64 (j8 x:Nat),.nilIface])∧Below w.heap.size w w':=by
 have hsz:=zs x;obtain⟨W1,cap,hconv,hcell,hbel⟩:=Yu w x;have hxl:=KY x hf;have HS:Hid ((bs x).size=x.length):=hsz;have hne:(x== [])=false:=by match x,h2 with | [a,b],_=>rfl
 have hot:=zp x;rw[h2]at hsz;rw[hsz]at hconv;have HX:Hid (x.length=2):=h2;clear hsz h2;go_enter Tryz.func104,Tryz.ntmps104
 go_wp2
 go_loop [12,13,101] (λu n i=>∃k:Nat,k≤2∧u= .bool false∧i= .int .i64 (k:Nat)∧n= .int .u64 (j8 (x.take k):Nat)) (λ_ _ i=>2-(intOf i).toNat)
 case atStart=>exact⟨0,Nat.zero_le _,rfl,rfl,rfl⟩
 case round =>
  obtain⟨k,hk,rfl,rfl,rfl⟩:=hrel;obtain⟨hv2,hv1'⟩:=hxl k hk HX.out
  obtain⟨V,hV⟩:∃V,V=j8 (x.take k):=⟨_,rfl⟩
  rw[←hV]at hv2 hv1' ⊢;by_cases hlt:k<2
  ·have hlt':k<x.length:=by rw[HX.out];exact hlt
   have hc:=hcell k hlt';have hvb:=hv1' hlt;have hvt:=kP x k hlt';rw[←hV]at hvt;have hhx:=KZ (hf _ (List.getElem_mem hlt'));have HV:Hid (((j8 (x.take (k+1)):Nat):Int)=16*(V:Int)+((hv1 x[k]:Nat):Int)):=by show((j8 (x.take (k+1)):Nat):Int)=_;rw[hvt];omega
   have hlt2:((k:Nat):Int)<2:=by omega
   have hvi:(V:Int)≤15:=by omega
   clear hvt hV hv2 hv1' hcell hconv hxl hbel hf;generalize ((hv1 x[k]:Nat):Int)=y at hhx HV;generalize ((x[k].toNat:Nat):Int)=z at hc hhx HV;have hv0:(0:Int)≤(V:Int):=by omega
   generalize (V:Int)=Z at hvi hv0 HV ⊢;clear hvb;rcases hhx with⟨g1,g2,g3⟩|⟨g1,g2,g3⟩
   ·have e1:(z==95)=false:=by simp;omega
    subst g3
    go_wp2
    go_round
    case rel=>exact⟨k+1,by omega,rfl,by go_num,by rw[HV.out];go_num⟩
    case measure=>simp[intOf];omega
   ·have e1:(z==95)=false:=by simp;omega
    have hlow:=Fc z ⟨g1,g2⟩;subst g3
    go_wp2_with (first
     |((go_at_call 121)
       refine(hlow _).mono ?_;(rintro e w2 ⟨rfl,rfl⟩)))
    go_round
    case rel=>exact⟨k+1,by omega,rfl,by go_num,by rw[HV.out];go_num⟩
    case measure=>simp[intOf];omega
  ·have hlt2:¬((k:Nat):Int)<2:=by omega
   have hfull:x.take k=x:=List.take_of_length_le (by rw[HX.out];omega);rw[hfull]at hV;have HV:Hid (V=j8 x):=hV;clear hfull hV hcell hconv hxl
   go_wp2
   go_ret2
   exact⟨by rw[HV.out];rfl,hbel⟩
theorem FR(x:List UInt8)(w:World)(h2:x.length=2)(hf:∀c ∈ x,zo c=true):
 Calls Tryz.prog 97 #[.string (bs x),.int .i64 16,.int .i64 8] w λe w'=>e= .returned (.tuple #[.int .u64 (j8 x:Nat),.nilIface])∧Below w.heap.size w w':=by
 have ha:=G8 x w h2 hf;go_enter Tryz.func97,Tryz.ntmps97
 go_wp2_with (go_at_call 104;refine ha.mono ?_;rintro e w' ⟨rfl,hb⟩)
 go_ret2
 exact⟨rfl,hb⟩
theorem JR:∀(i:Nat) (x:List UInt8),2*i+1<x.length→(jZ x)[i]?=some (UInt8.ofNat (j8 ((x.drop (2*i)).take 2)))
 |0,a::b::r,_=>by simp[jZ,j8]
 |i+1,a::b::r,h=>by
  have:=JR i r (by simp at h;omega);simp only[jZ,List.getElem?_cons_succ];rw[this,show 2*(i+1)=2*i+1+1 by omega];rfl
 |0,[],h=>by simp at h
 |0,[_],h=>by simp at h
 |i+1,[],h=>by simp at h
 |i+1,[_],h=>by simp at h
theorem JU:∀(x:List UInt8),(jZ x).length=x.length / 2
 |a::b::r=>by simp[jZ,JU r];omega
 | []=>rfl
 | [_]=>by simp[jZ]
theorem zk{p:Prop}(h:p):Hid p:=h
theorem KR(x:List UInt8)(w:World)(hl:x.length=64)(hf:∀c ∈ x,zo c=true):Calls Tryz.prog 82 #[.string (bs x)] w λe w'=>∃v,e= .returned v∧fq w w' v (jZ x)∧Below w.heap.size w w':=by
 have hsz:=zs x;rw[hl]at hsz;obtain⟨W1,hH1,hb1,hmk⟩:=Gl 32 (by decide) w;have hget:∀i,i<32→(jZ x)[i]?=some (UInt8.ofNat (j8 ((x.drop (2*i)).take 2))):=λi hi=>JR i x (by omega)
 have hulen:(jZ x).length=32:=by rw[JU,hl]
 have hsub:∀i,i<32→((x.drop (2*i)).take 2).length=2∧∀c ∈ (x.drop (2*i)).take 2,zo c=true:=λi hi=>⟨by simp;omega,λc hc=>hf c (List.mem_of_mem_drop (List.mem_of_mem_take hc))⟩
 have hlt:∀i,i<32→j8 ((x.drop (2*i)).take 2)≤255:=λi hi=>by
  have:=(KY ((x.drop (2*i)).take 2) (hsub i hi).2 2 (Nat.le_refl _) (hsub i hi).1).1
  rwa [List.take_of_length_le (by rw[(hsub i hi).1];exact Nat.le_refl _)]at this
 have HX:Hid (x.length=64):=hl;have HG:Hid (∀i,i<32→(jZ x)[i]?=some (UInt8.ofNat (j8 ((x.drop (2*i)).take 2)))):=hget;have HU:Hid ((jZ x).length=32):=hulen;have HSu:Hid (∀i,i<32→((x.drop (2*i)).take 2).length=2∧∀c ∈ (x.drop (2*i)).take 2,zo c=true):=hsub;have HLt:Hid (∀i,i<32→j8 ((x.drop (2*i)).take 2)≤255):=hlt;have h0:zi W1 w.heap.size 5 (qJ .u8 32 λj=>if j<0 then j8 ((x.drop (2*j)).take 2)else 0):=by simpa using hH1
 clear hl hget hulen hsub hlt hf hH1;go_enter Tryz.func82,Tryz.ntmps82
 go_wp2_with (first
  |((refine zb 10 rfl ?_)
    (refine zq (some 10) (.slice (some ⟨w.heap.size,0,none⟩) 32 32) W1 rfl (by rfl) (hmk _ _ _ _ rfl rfl rfl) ?_)))
 go_loopw [13] (λz wr=>∃i:Nat,z= .int .i64 (i:Nat)∧i≤32∧zi wr w.heap.size 5 (qJ .u8 32 λj=>if j<i then j8 ((x.drop (2*j)).take 2)else 0)∧Below w.heap.size w wr) (λz _=>32-(intOf z).toNat)
 case atStart=>exact⟨0,rfl,by omega,h0,hb1⟩
 case round =>
  obtain⟨i,rfl,hi,hH,hB⟩:=hrel;clear h0 hb1 hmk;by_cases hlt:i<32
  ·have hy:=HSu.out i hlt
   have hK:=HLt.out i hlt;have hex:(bs x).extract (2*i) (2*i+2)=bs ((x.drop (2*i)).take 2):=by rw[qq,Nat.add_sub_cancel_left]
   have hpu:=λW=>FR _ W hy.1 hy.2
   have HN:Hid (j8 ((x.drop (2*i)).take 2)=j8 ((x.drop (2*i)).take 2)):=rfl;have hli:(i:Int)<32:=by omega
   have hset:=λW (h:zi W w.heap.size 5 (qJ .u8 32 λj=>if j<i then j8 ((x.drop (2*j)).take 2)else 0))=>h.set i (j8 ((x.drop (2*i)).take 2))
   have hupd:qJ .u8 32 (fg (λj=>if j<i then j8 ((x.drop (2*j)).take 2)else 0) i (j8 ((x.drop (2*i)).take 2)))=qJ .u8 32 (λj=>if j<i+1 then j8 ((x.drop (2*j)).take 2)else 0):=by
    refine VG _ _ _ _ (λj hj=>?_);unfold fg;by_cases e:j=i
    ·subst e;rw[if_pos rfl,if_pos (by omega)]
    ·rw[if_neg e]
     show(if j<i then j8 ((x.drop (2*j)).take 2)else 0)=_;by_cases e2:j<i
     ·rw[if_pos e2,if_pos (by omega)]
     ·rw[if_neg e2,if_neg (by omega)]
   have HU2:=zk hupd;have HSe:=zk hset;have cc:=hH.num i hlt;simp only[if_neg (Nat.lt_irrefl i)]at cc;have hlg:=hH.lt;generalize (x.drop (2*i)).take 2=y at hex hpu hK HSe HU2 cc;generalize j8 y=K at hpu hK HSe HU2;have hKi:((K:Nat):Int)≤255:=by omega
   have hKi0:(0:Int)≤((K:Nat):Int):=by omega
   clear hupd hset hy HN
   go_wp2_with (first
    |((go_at_call 97)
      refine(hpu _).mono ?_;rintro e w2 ⟨rfl,hb2⟩;have cc2:=za hb2 cc;(have fr2:=(hH.below hb2 hlg).free i)))
   go_roundw
   case rel=>exact⟨i+1,by go_num,by omega,by rw[←HU2.out];exact HSe.out _ (hH.below hb2 hlg),(hB.trans (hb2.mono hB.size)).setCell (p:=⟨w.heap.size,i,none⟩) (Nat.le_refl _) _⟩
   case measure=>simp[intOf];omega
  ·obtain rfl:i=32:=by omega
   go_wp2
   go_ret
   refine⟨.slice (some ⟨w.heap.size,0,none⟩) 32 32,rfl,⟨some ⟨w.heap.size,0,none⟩,32,by rw[HU.out],by rw[HU.out];exact Nat.le_refl _,by unfold maxLen;omega,?_⟩,hB⟩;refine .inr ⟨w.heap.size,0,rfl,hH.lt,Nat.le_refl _,λj hj=>?_⟩;rw[HU.out]at hj;have:=hH.num j hj;rw[Nat.zero_add,this,if_pos hj];have hg:=HG.out j hj;have hk:=HLt.out j hj;rw[List.getElem?_eq_getElem (by rw[HU.out];exact hj)]at hg;injection hg with hg
   rw[hg]
   congr 2
   simp;omega
end
section
open Go.ChangeShapes Go.WideShapes Go.ChangeAt Go.RowKit Go.MapKept
variable {E:Nat→Prop}
def UM(E:Nat→Prop)(w:World)(cb:Nat)(V:CV)(R:Except Er Ck)(e:Ending)(w':World):Prop:=j9 (V.own cb) w w'∧match R with
 | .error (ec,ek)=>e= .panicked (Vi ec ek)
 | .ok c'=>e= .returned (.tuple #[])∧∃V',zG (λg=>E g∨w.heap.size≤g) w' cb V' c'∧qT cb V w V' w'
theorem vG{o:Oper}{a:Act}(x:Operand)(k:Int)(ho:o.op= .binOp .eql 3 x (.const (.int .i64 k)) 3)(K:Int)(hx:a.eval x= .int .i64 K)(b:Bool)(hb:(K==k)=b)(w:World):(execOp a.eval o).run Tryz.prog w= .ok (.value (.bool b)) w:=by
 unfold execOp;simp only[ho,hx];subst hb;go_simp
theorem GB{w:World}{cb:Nat}{V:CV}{c:Ck}(h:zG E w cb V c)(n:Nd)(A:Option Addr)(L C:Nat)(hn:vI c.names c.parts):Calls Tryz.prog 62 #[.pointer (some ⟨cb,0,none⟩),.agg (qa n (.slice A L C))] w (UM E w cb V (vw c n)):=by
 obtain⟨W1,hW1⟩:∃W1,W1=w.alloc (.cells #[.string (bs n.op),.string (bs n.s),.int .i64 n.n,.int .i64 n.a,.slice A L C] 24):=⟨_,rfl⟩
 have hb1:Below w.heap.size w W1:=by rw[hW1];exact zh w _
 have N1:zi W1 w.heap.size 24 #[.string (bs n.op),.string (bs n.s),.int .i64 n.n,.int .i64 n.a,.slice A L C]:=by rw[hW1];exact zi.new w _ _
 have h1:zG E W1 cb V c:=h.keep hb1;have HW:=zk hW1;have lcb:=h.has.lt;have c3:=h1.has.cell 3;have nc3:=N1.cell 3;simp only[qt,qu,qr]at c3 nc3;clear hW1;cases hx:c.expo with
 |some x0 =>
  have HR:=zk (show vw c n= .error (138,n.a) by unfold vw;rw[hx];rfl)
  have hxe:(jI c.expo== -1)=false:=by
   rw[hx,beq_eq_false_iff_ne];show((x0:Nat):Int)≠ -1;omega
  unfold qa;go_enter Tryz.func62,Tryz.ntmps62
  go_wp2
  rw[←HW.out];refine wp_region_held_drew (S:=λwz=>Below W1.heap.size W1 wz) (by kernel_rfl) ((Below.refl _ W1).drew) (λhHeld=>?_);refine zC 0 (some 4) (.pointer (some ⟨cb,0,none⟩)) hHeld ?_;simp only[Act.put,ze,zg,zf];refine zC 1 (some 5) (.pointer (some ⟨cb,0,none⟩)) hHeld ?_;simp only[Act.put,ze,zg,zf];refine zC 2 (some 6) (.pointer (some ⟨cb,0,none⟩)) hHeld ?_;simp only[Act.put,ze,zg,zf];refine zC 3 (some 7) (.pointer (some ⟨cb,3,none⟩)) hHeld ?_;simp only[Act.put,ze,zg,zf];refine zP 4 (some 8) (.int .i64 (jI c.expo)) rfl rfl (λwz hz=>by have z0:=za hz c3;unfold execOp;go_simp) hHeld ?_;simp only[Act.put,ze,zg,zf];refine zP 5 (some 9) (.bool false) rfl rfl (λwz _=>vG _ (-1) rfl (jI c.expo) rfl false hxe wz) hHeld ?_;simp only[Act.put,ze,zg,zf];refine zC 6 (some 10) (.pointer (some ⟨w.heap.size,3,none⟩)) hHeld ?_;simp only[Act.put,ze,zg,zf];refine zP 7 (some 11) (.int .i64 n.a) rfl rfl (λwz hz=>by have z0:=za hz nc3;unfold execOp;go_simp) hHeld ?_;simp only[Act.put,ze,zg,zf];refine qn 8 (some 12) 63 #[.bool false,.int .i64 138,.int .i64 n.a] (by kernel_rfl) rfl rfl (by rfl) (by kernel_rfl) (qx 138 n.a W1.drew) ?_;rintro e w5 ⟨rfl,rfl⟩;refine .inr ⟨_,rfl,?_⟩;exact⟨rfl,(j9.of hb1).drew,by rw[HR.out];rfl⟩
 |none =>
  have hxe:(jI c.expo== -1)=true:=by rw[hx];rfl
  have hk2:∀w2:World,Below W1.heap.size W1 w2→Calls Tryz.prog 80 #[.pointer (some ⟨cb,0,none⟩),.agg (qa n (.slice A L C)),.slice (some ⟨w2.heap.size,0,none⟩) 2 2] (w2.alloc (.cells #[.string ⟨#[100,101,118,105,99,101]⟩,.string ⟨#[118,111,108,117,109,101]⟩] 9)) (Dq (w2.alloc (.cells #[.string ⟨#[100,101,118,105,99,101]⟩,.string ⟨#[118,111,108,117,109,101]⟩] 9)) V cb (qm c.names n [zd,zr])):=λw2 hb=>Vv ((h1.keep hb).alloc _) n A L C [zd,zr] _ (.inr ⟨w2.heap.size,rfl,zi.new_at rfl⟩) (by simp)
  have hR:vw c n=match qm c.names n [zd,zr]with | .error e=> .error e| .ok m=> .ok { c with expo:=some m.node,ro:=decide (n.n=1)||(zF c.parts).getD m.node false,eat:=n.a }:=by unfold vw;rw[hx];rfl
  clear hx;cases hK:qm c.names n [zd,zr]with
  |error er =>
   obtain⟨ec,ek⟩:=er;rw[hK]at hk2 hR;have HR:=zk hR;clear hK hR;unfold qa at hk2 ⊢;go_enter Tryz.func62,Tryz.ntmps62
   go_wp2
   rw[←HW.out];refine wp_region_held_drew (S:=λwz=>Below W1.heap.size W1 wz) (by kernel_rfl) ((Below.refl _ W1).drew) (λhHeld=>?_);refine zC 0 (some 4) (.pointer (some ⟨cb,0,none⟩)) hHeld ?_;simp only[Act.put,ze,zg,zf];refine zC 1 (some 5) (.pointer (some ⟨cb,0,none⟩)) hHeld ?_;simp only[Act.put,ze,zg,zf];refine zC 2 (some 6) (.pointer (some ⟨cb,0,none⟩)) hHeld ?_;simp only[Act.put,ze,zg,zf];refine zC 3 (some 7) (.pointer (some ⟨cb,3,none⟩)) hHeld ?_;simp only[Act.put,ze,zg,zf];refine zP 4 (some 8) (.int .i64 (jI c.expo)) rfl rfl (λwz hz=>by have z0:=za hz c3;unfold execOp;go_simp) hHeld ?_;simp only[Act.put,ze,zg,zf];refine zP 5 (some 9) (.bool true) rfl rfl (λwz _=>vG _ (-1) rfl (jI c.expo) rfl true hxe wz) hHeld ?_;simp only[Act.put,ze,zg,zf];refine zC 6 (some 10) (.pointer (some ⟨w.heap.size,3,none⟩)) hHeld ?_;simp only[Act.put,ze,zg,zf];refine zP 7 (some 11) (.int .i64 n.a) rfl rfl (λwz hz=>by have z0:=za hz nc3;unfold execOp;go_simp) hHeld ?_;simp only[Act.put,ze,zg,zf];refine qn 8 (some 12) 63 #[.bool true,.int .i64 138,.int .i64 n.a] (by kernel_rfl) rfl rfl (by rfl) (by kernel_rfl) (zX 138 n.a W1.drew) ?_;rintro e w5 ⟨rfl,rfl⟩;refine .inl ⟨_,rfl,hHeld,?_⟩;simp only[Act.put,ze,zg,zf];refine wpAnyH_done (by kernel_rfl) ?_ _;have hb2:Below W1.heap.size W1 W1.drew:=zm (Below.refl _ W1);have hkn:=hk2 _ hb2;have N2:=zn N1;clear hHeld hk2 c3 nc3;generalize W1.drew=W2 at *;have a0:=N2.cell 0;have a1:=N2.cell 1;have a2:=N2.cell 2;have a3:=N2.cell 3;have a4:=N2.cell 4;have al:=N2.lt;simp only[qt,qu,qr]at a0 a1 a2 a3 a4
   go_wp2_with (first
    |((go_at_call 80)
      refine hkn.mono ?_;(rintro e w5 ⟨hb5,rfl⟩)))
   exact⟨rfl,(j9.of ((hb1.trans (hb2.mono hb1.size)).trans ((zh W2 _).mono (Nat.le_trans hb1.size hb2.size)))).trans (.of hb5),by rw[HR.out]⟩
  |ok m =>
   have hnd:=Zr hn hK;rw[hK]at hk2 hR;have HR:=zk hR;clear hK hR;unfold qa at hk2 ⊢;go_enter Tryz.func62,Tryz.ntmps62
   go_wp2
   rw[←HW.out];refine wp_region_held_drew (S:=λwz=>Below W1.heap.size W1 wz) (by kernel_rfl) ((Below.refl _ W1).drew) (λhHeld=>?_);refine zC 0 (some 4) (.pointer (some ⟨cb,0,none⟩)) hHeld ?_;simp only[Act.put,ze,zg,zf];refine zC 1 (some 5) (.pointer (some ⟨cb,0,none⟩)) hHeld ?_;simp only[Act.put,ze,zg,zf];refine zC 2 (some 6) (.pointer (some ⟨cb,0,none⟩)) hHeld ?_;simp only[Act.put,ze,zg,zf];refine zC 3 (some 7) (.pointer (some ⟨cb,3,none⟩)) hHeld ?_;simp only[Act.put,ze,zg,zf];refine zP 4 (some 8) (.int .i64 (jI c.expo)) rfl rfl (λwz hz=>by have z0:=za hz c3;unfold execOp;go_simp) hHeld ?_;simp only[Act.put,ze,zg,zf];refine zP 5 (some 9) (.bool true) rfl rfl (λwz _=>vG _ (-1) rfl (jI c.expo) rfl true hxe wz) hHeld ?_;simp only[Act.put,ze,zg,zf];refine zC 6 (some 10) (.pointer (some ⟨w.heap.size,3,none⟩)) hHeld ?_;simp only[Act.put,ze,zg,zf];refine zP 7 (some 11) (.int .i64 n.a) rfl rfl (λwz hz=>by have z0:=za hz nc3;unfold execOp;go_simp) hHeld ?_;simp only[Act.put,ze,zg,zf];refine qn 8 (some 12) 63 #[.bool true,.int .i64 138,.int .i64 n.a] (by kernel_rfl) rfl rfl (by rfl) (by kernel_rfl) (zX 138 n.a W1.drew) ?_;rintro e w5 ⟨rfl,rfl⟩;refine .inl ⟨_,rfl,hHeld,?_⟩;simp only[Act.put,ze,zg,zf];refine wpAnyH_done (by kernel_rfl) ?_ _;have hb2:Below W1.heap.size W1 W1.drew:=zm (Below.refl _ W1);have hkn:=hk2 _ hb2;have N2:=zn N1;clear hHeld hk2 c3 nc3;generalize W1.drew=W2 at *;have a0:=N2.cell 0;have a1:=N2.cell 1;have a2:=N2.cell 2;have a3:=N2.cell 3;have a4:=N2.cell 4;have al:=N2.lt;simp only[qt,qu,qr]at a0 a1 a2 a3 a4
   obtain⟨K,hKm⟩:∃K,K=m.node:=⟨_,rfl⟩
   have HKm:=zk hKm;have hb12:Below w.heap.size w W2:=hb1.trans (hb2.mono hb1.size);have HB:=zk (λw5 (hb5:Below (W2.alloc (.cells #[.string ⟨#[100,101,118,105,99,101]⟩,.string ⟨#[118,111,108,117,109,101]⟩] 9)).heap.size (W2.alloc (.cells #[.string ⟨#[100,101,118,105,99,101]⟩,.string ⟨#[118,111,108,117,109,101]⟩] 9)) w5)=>(hb12.trans ((zh W2 (.cells #[.string ⟨#[100,101,118,105,99,101]⟩,.string ⟨#[118,111,108,117,109,101]⟩] 9)).mono hb12.size)).trans (hb5.mono (by have:=hb12.size;simp;omega)));clear hKm
   go_wp2_with (first
    |((go_at_call 80)
      refine hkn.mono ?_;rintro e w5 ⟨hb5,Am,Cm,rfl,hm1,hm2,hbp⟩;unfold Yb;rw[←HKm.out];have hb05:=HB.out w5 hb5;have H5:=h.keep hb05;have N5:=N1.below (show Below W1.heap.size W1 w5 from(hb2.trans ((zh W2 (.cells #[.string ⟨#[100,101,118,105,99,101]⟩,.string ⟨#[118,111,108,117,109,101]⟩] 9)).mono hb2.size)).trans (hb5.mono (by have:=hb2.size;simp;omega))) N1.lt;have q3:=H5.has.cell 3;have f3:=H5.has.free 3;have l3:=H5.has.lt;(simp only[qt,qu,qr]at q3))
    |((refine zb 18 rfl ?_)
      (refine zc (some 18) (.int .i64 (K:Nat)) rfl (by rfl) (by kernel_rfl) ?_)))
   obtain⟨H3,S3⟩:=H5.put (c':={ c with expo:=some K }) 3 (.int .i64 (K:Nat)) (H5.has.putP 3 _) rfl rfl rfl;have S03:=(qT.of (cb:=cb) (V:=V) hb05).trans S3;have N3:=N5.other (p:=⟨cb,3,none⟩) (by show w.heap.size≠cb;omega) (.int .i64 (K:Nat));have hKP':K<c.parts.length:=by rw[HKm.out];exact hnd.1
   obtain⟨gb,ob,Cb,evb,hCb1,hCb2,hgb,hOn⟩:=H3.vo (by show 0<c.parts.length;omega);generalize w5.setCell ⟨cb,3,none⟩ (.int .i64 (K:Nat))=W3 at *;have q2:=N3.cell 2;have q6:=H3.has.cell 6;have q3:=H3.has.cell 3;have qB:=hOn K (by rw[jx];exact hKP');simp only[List.getElem?_toArray,List.getElem?_cons_zero,List.getElem?_cons_succ,evb]at q2 q3 q6;change W3.cell? ⟨cb,3,none⟩=some (.int .i64 (K:Nat))at q3;change W3.cell? ⟨gb,ob+K,none⟩=some (.bool ((zF c.parts).getD K false))at qB
   obtain⟨B,hB⟩:∃B,B=(zF c.parts).getD K false:=⟨_,rfl⟩
   rw[←hB]at qB
   obtain⟨NP,hNP⟩:∃NP,NP=c.parts.length:=⟨_,rfl⟩
   have hKP:K<NP:=by rw[hNP];exact hKP'
   change W3.cell? ⟨cb,6,none⟩=some (.slice (some ⟨gb,ob,none⟩) c.parts.length Cb)at q6;rw[←hNP]at q6;have HBo:=zk hB;clear hB hNP hKP' f3 l3 H5 hbp hm1 hm2 hb5 hOn hCb1 hCb2 evb a0 a1 a2 a3 a4 al hkn N5 N1 N2 h1 hb12 hb2 hb1 hb05 S3;by_cases hn1:n.n=1
   ·have HRO:=zk (show({ c with expo:=some m.node,ro:=decide (n.n=1)||(zF c.parts).getD m.node false,eat:=n.a }:Ck)= { c with expo:=some K,ro:=true,eat:=n.a } by rw[HKm.out,decide_eq_true hn1,Bool.true_or])
    have hn1:(n.n==1)=true:=by rw[hn1];rfl
    go_wp2
    refine vD (S:=λwz=>Below W3.heap.size W3 wz) 20 (by kernel_rfl) ((Below.refl _ W3).drew) (λhHeld=>?_);refine vf 0 (some 22) (.pointer (some ⟨cb,0,none⟩)) hHeld ?_;simp only[Act.put,ze,zg,zf];refine vf 1 (some 23) (.pointer (some ⟨w.heap.size,2,none⟩)) hHeld ?_;simp only[Act.put,ze,zg,zf];refine vM 2 (some 24) (.int .i64 n.n) rfl rfl (λwz hz=>by have z0:=za hz q2;unfold execOp;go_simp) hHeld ?_;simp only[Act.put,ze,zg,zf];refine vM 3 (some 25) (.bool true) rfl rfl (λwz _=>vG _ 1 rfl n.n rfl true hn1 wz) hHeld ?_;simp only[Act.put,ze,zg,zf];refine vf 4 (some 26) (.bool true) hHeld ?_;simp only[Act.put,ze,zg,zf];refine xj 5 (some 27) rfl rfl (by decide) (by kernel_rfl) (by kernel_rfl) (by kernel_rfl) (by kernel_rfl) (λ_ _ _ h=>h) (by rfl) hHeld ?_;simp only[Act.put,ze,zg,zf];refine xj 6 (some 28) rfl rfl (by decide) (by kernel_rfl) (by kernel_rfl) (by kernel_rfl) (by kernel_rfl) (λ_ _ _ h=>h) (by rfl) hHeld ?_;simp only[Act.put,ze,zg,zf];refine xj 7 (some 29) rfl rfl (by decide) (by kernel_rfl) (by kernel_rfl) (by kernel_rfl) (by kernel_rfl) (λ_ _ _ h=>h) (by rfl) hHeld ?_;simp only[Act.put,ze,zg,zf];refine xj 8 (some 30) rfl rfl (by decide) (by kernel_rfl) (by kernel_rfl) (by kernel_rfl) (by kernel_rfl) (λ_ _ _ h=>h) (by rfl) hHeld ?_;simp only[Act.put,ze,zg,zf];refine xj 9 (some 31) rfl rfl (by decide) (by kernel_rfl) (by kernel_rfl) (by kernel_rfl) (by kernel_rfl) (λ_ _ _ h=>h) (by rfl) hHeld ?_;simp only[Act.put,ze,zg,zf];refine xj 10 (some 32) rfl rfl (by decide) (by kernel_rfl) (by kernel_rfl) (by kernel_rfl) (by kernel_rfl) (λ_ _ _ h=>h) (by rfl) hHeld ?_;simp only[Act.put,ze,zg,zf];refine xj 11 (some 33) rfl rfl (by decide) (by kernel_rfl) (by kernel_rfl) (by kernel_rfl) (by kernel_rfl) (λ_ _ _ h=>h) (by rfl) hHeld ?_;simp only[Act.put,ze,zg,zf];refine xj 12 (some 34) rfl rfl (by decide) (by kernel_rfl) (by kernel_rfl) (by kernel_rfl) (by kernel_rfl) (λ_ _ _ h=>h) (by rfl) hHeld ?_;simp only[Act.put,ze,zg,zf];refine xj 13 (some 35) rfl rfl (by decide) (by kernel_rfl) (by kernel_rfl) (by kernel_rfl) (by kernel_rfl) (λ_ _ _ h=>h) (by rfl) hHeld ?_;simp only[Act.put,ze,zg,zf];refine xj 14 (some 36) rfl rfl (by decide) (by kernel_rfl) (by kernel_rfl) (by kernel_rfl) (by kernel_rfl) (λ_ _ _ h=>h) (by rfl) hHeld ?_;simp only[Act.put,ze,zg,zf];refine xj 15 (some 37) rfl rfl (by decide) (by kernel_rfl) (by kernel_rfl) (by kernel_rfl) (by kernel_rfl) (λ_ _ _ h=>h) (by rfl) hHeld ?_;simp only[Act.put,ze,zg,zf];refine vM 16 (some 38) (.bool true) rfl rfl (λ_ _=>by kernel_rfl) hHeld ?_;simp only[Act.put,ze,zg,zf];refine jj 17 (some 39) (.pointer (some ⟨cb,0,none⟩)) W3.drew (by kernel_rfl) rfl rfl (by rfl) rfl hHeld ?_;simp only[Act.put,ze,zg,zf];refine jj 18 (some 40) (.pointer (some ⟨cb,0,none⟩)) W3.drew (by kernel_rfl) rfl rfl (by rfl) rfl hHeld ?_;simp only[Act.put,ze,zg,zf];refine jj 19 (some 41) (.pointer (some ⟨cb,4,none⟩)) W3.drew (by kernel_rfl) rfl rfl (by rfl) rfl hHeld ?_;simp only[Act.put,ze,zg,zf];have H3d:=H3.keep (zm (Below.refl _ W3));have q4:=H3d.has.cell 4;have f4:=H3d.has.free 4;have l4:=H3d.has.lt;refine jv 20 none (W3.drew.setCell ⟨cb,4,none⟩ (.bool true)) (by kernel_rfl) rfl rfl (by rfl) (by unfold execOp;go_simp) (by kernel_rfl) ?_;simp only[Act.put];obtain⟨H4,S4⟩:=H3d.put (c':={ c with expo:=some K,ro:=true }) 4 (.bool true) (H3d.has.putP 4 _) rfl rfl rfl;have N4:=(zn N3).other (p:=⟨cb,4,none⟩) (by show w.heap.size≠cb;omega) (.bool true);have S34:qT cb V W3 V (W3.drew.setCell ⟨cb,4,none⟩ (.bool true)):=(qT.of (zm (Below.refl _ W3))).trans S4;generalize W3.drew.setCell ⟨cb,4,none⟩ (.bool true)=W4 at *;have a3:=N4.cell 3;have al:=N4.lt;have b7:=H4.has.cell 7;have e7:=H4.has.free 7;have bl:=H4.has.lt;simp only[qt,qu,qr]at a3 b7;clear q2 q3 q4 q6 qB f4 l4 H3d hHeld S4
    go_wp2
    go_end0
    obtain⟨H5,S5⟩:=H4.put (c':={ c with expo:=some K,ro:=true,eat:=n.a }) 7 (.int .i64 n.a) (H4.has.putP 7 _) rfl rfl rfl;have S05:=(S03.trans S34).trans S5;refine⟨S05.only,?_⟩;rw[HR.out];refine⟨rfl,V,?_,S05⟩;rw[HRO.out];exact H5.mono (λ_ _ _ he=> .inl he)
   ·have HRO:=zk (show({ c with expo:=some m.node,ro:=decide (n.n=1)||(zF c.parts).getD m.node false,eat:=n.a }:Ck)= { c with expo:=some K,ro:=B,eat:=n.a } by rw[HBo.out,HKm.out,decide_eq_false hn1,Bool.false_or])
    have hn1:(n.n==1)=false:=by rw[beq_eq_false_iff_ne];exact hn1
    go_wp2
    refine vD (S:=λwz=>Below W3.heap.size W3 wz) 20 (by kernel_rfl) ((Below.refl _ W3).drew) (λhHeld=>?_);refine vf 0 (some 22) (.pointer (some ⟨cb,0,none⟩)) hHeld ?_;simp only[Act.put,ze,zg,zf];refine vf 1 (some 23) (.pointer (some ⟨w.heap.size,2,none⟩)) hHeld ?_;simp only[Act.put,ze,zg,zf];refine vM 2 (some 24) (.int .i64 n.n) rfl rfl (λwz hz=>by have z0:=za hz q2;unfold execOp;go_simp) hHeld ?_;simp only[Act.put,ze,zg,zf];refine vM 3 (some 25) (.bool false) rfl rfl (λwz _=>vG _ 1 rfl n.n rfl false hn1 wz) hHeld ?_;simp only[Act.put,ze,zg,zf];refine vf 4 (some 26) (.bool false) hHeld ?_;simp only[Act.put,ze,zg,zf];refine vf 5 (some 27) (.pointer (some ⟨cb,0,none⟩)) hHeld ?_;simp only[Act.put,ze,zg,zf];refine vf 6 (some 28) (.pointer (some ⟨cb,0,none⟩)) hHeld ?_;simp only[Act.put,ze,zg,zf];refine vf 7 (some 29) (.pointer (some ⟨cb,6,none⟩)) hHeld ?_;simp only[Act.put,ze,zg,zf];refine vM 8 (some 30) (.slice (some ⟨gb,ob,none⟩) NP Cb) rfl rfl (λwz hz=>by have z0:=za hz q6;unfold execOp;go_simp) hHeld ?_;simp only[Act.put,ze,zg,zf];refine vf 9 (some 31) (.pointer (some ⟨cb,0,none⟩)) hHeld ?_;simp only[Act.put,ze,zg,zf];refine vf 10 (some 32) (.pointer (some ⟨cb,0,none⟩)) hHeld ?_;simp only[Act.put,ze,zg,zf];refine vf 11 (some 33) (.pointer (some ⟨cb,0,none⟩)) hHeld ?_;simp only[Act.put,ze,zg,zf];refine vf 12 (some 34) (.pointer (some ⟨cb,3,none⟩)) hHeld ?_;simp only[Act.put,ze,zg,zf];refine vM 13 (some 35) (.int .i64 (K:Nat)) rfl rfl (λwz hz=>by have z0:=za hz q3;unfold execOp;go_simp) hHeld ?_;simp only[Act.put,ze,zg,zf];refine vM 14 (some 36) (.pointer (some ⟨gb,ob+K,none⟩)) rfl rfl (λwz _=>Z0 _ _ rfl gb ob K NP Cb rfl rfl hKP wz) hHeld ?_;simp only[Act.put,ze,zg,zf];refine vM 15 (some 37) (.bool B) rfl rfl (λwz hz=>by have z0:=za hz qB;unfold execOp;go_simp) hHeld ?_;simp only[Act.put,ze,zg,zf];refine vM 16 (some 38) (.bool B) rfl rfl (λ_ _=>by kernel_rfl) hHeld ?_;simp only[Act.put,ze,zg,zf];refine jj 17 (some 39) (.pointer (some ⟨cb,0,none⟩)) W3.drew (by kernel_rfl) rfl rfl (by rfl) rfl hHeld ?_;simp only[Act.put,ze,zg,zf];refine jj 18 (some 40) (.pointer (some ⟨cb,0,none⟩)) W3.drew (by kernel_rfl) rfl rfl (by rfl) rfl hHeld ?_;simp only[Act.put,ze,zg,zf];refine jj 19 (some 41) (.pointer (some ⟨cb,4,none⟩)) W3.drew (by kernel_rfl) rfl rfl (by rfl) rfl hHeld ?_;simp only[Act.put,ze,zg,zf];have H3d:=H3.keep (zm (Below.refl _ W3));have q4:=H3d.has.cell 4;have f4:=H3d.has.free 4;have l4:=H3d.has.lt;refine jv 20 none (W3.drew.setCell ⟨cb,4,none⟩ (.bool B)) (by kernel_rfl) rfl rfl (by rfl) (by unfold execOp;go_simp) (by kernel_rfl) ?_;simp only[Act.put];obtain⟨H4,S4⟩:=H3d.put (c':={ c with expo:=some K,ro:=B }) 4 (.bool B) (H3d.has.putP 4 _) rfl rfl rfl;have N4:=(zn N3).other (p:=⟨cb,4,none⟩) (by show w.heap.size≠cb;omega) (.bool B);have S34:qT cb V W3 V (W3.drew.setCell ⟨cb,4,none⟩ (.bool B)):=(qT.of (zm (Below.refl _ W3))).trans S4;generalize W3.drew.setCell ⟨cb,4,none⟩ (.bool B)=W4 at *;have a3:=N4.cell 3;have al:=N4.lt;have b7:=H4.has.cell 7;have e7:=H4.has.free 7;have bl:=H4.has.lt;simp only[qt,qu,qr]at a3 b7;clear q2 q3 q4 q6 qB f4 l4 H3d hHeld S4
    go_wp2
    go_end0
    obtain⟨H5,S5⟩:=H4.put (c':={ c with expo:=some K,ro:=B,eat:=n.a }) 7 (.int .i64 n.a) (H4.has.putP 7 _) rfl rfl rfl;have S05:=(S03.trans S34).trans S5;refine⟨S05.only,?_⟩;rw[HR.out];refine⟨rfl,V,?_,S05⟩;rw[HRO.out];exact H5.mono (λ_ _ _ he=> .inl he)
end
section
open Go.ChangeShapes Go.WideShapes Go.ChangeAt Go.RowKit Go.MapKept
variable {E:Nat→Prop}
def yP(ps:List Pt)(ks:List Nat)(i:Nat):Nat:=((ks.take i).map (sz ps)).sum
def xZ(ps:List Pt)(ks:List Nat)(i:Nat):Bool:=(ks.take i).all λk=>sz ps k==sz ps (ks.getD 0 0)
theorem X6(ps:List Pt)(ks:List Nat){i:Nat}(h:i<ks.length):yP ps ks (i+1)=yP ps ks i+sz ps ks[i]:=by
 unfold yP;rw[List.take_succ_eq_append_getElem h,List.map_append,List.sum_append];rfl
theorem KA(ps:List Pt)(ks:List Nat){i:Nat}(h:i<ks.length):xZ ps ks (i+1)=(xZ ps ks i&&(sz ps ks[i]==sz ps (ks.getD 0 0))):=by
 unfold xZ;rw[List.take_succ_eq_append_getElem h,List.all_append];simp only[List.all_cons,List.all_nil,Bool.and_true]
theorem GI(ps:List Pt)(ks:List Nat)(hk:∀k ∈ ks,sz ps k≤8192)(i:Nat):yP ps ks i≤i*8192:=by
 unfold yP
 have :∀l:List Nat,(∀k ∈ l,sz ps k≤8192)→(l.map (sz ps)).sum≤l.length*8192:=by
  intro l
  induction l with
  |nil=>intro _;simp
  |cons a l ih =>
   intro h;have h1:=h a (by simp);have h2:=ih (λk hk=>h k (by simp[hk]));simp only[List.map_cons,List.sum_cons,List.length_cons];omega
 have h1:=this (ks.take i) (λk h=>hk k (List.mem_of_mem_take h));have h2:(ks.take i).length≤i:=by simp;omega
 exact Nat.le_trans h1 (Nat.mul_le_mul_right 8192 h2)
theorem UT(ps:List Pt)(s:Nat):∀(l:List Nat),(l.all λk=>sz ps k==s)=true→(l.map (sz ps)).sum=s*l.length:=by
 intro l
 induction l with
 |nil=>intro _;rfl
 |cons a l ih =>
  intro h;simp only[List.all_cons,Bool.and_eq_true,beq_iff_eq]at h;simp only[List.map_cons,List.sum_cons,List.length_cons,ih h.2,h.1];rw[Nat.mul_succ];omega
theorem UW{w:World}{cb:Nat}{V:CV}{c:Ck}(h:zG E w cb V c)(n:Nd)(A:Option Addr)(L C:Nat)(ks:List Nat){P:Nat→Prop}(Ak:Option Addr)(Ck:Nat)(hK:xx w P Ak ks)(hl2:2≤ks.length)(hl4:ks.length≤4)(hCk:ks.length≤Ck)(hCm:Ck≤maxLen)(hok:∀k ∈ ks,k<c.parts.length∧sz c.parts k≤8192):
 Calls Tryz.prog 106 #[.pointer (some ⟨cb,0,none⟩),.agg (qa n (.slice A L C)),.slice Ak ks.length Ck] w (yH w (KT (XZ c.parts n ks))):=by
 have hk0:0<ks.length:=by omega
 have hp0:0<c.parts.length:=by have:=(hok _ (List.getElem_mem hk0)).1;omega
 obtain⟨g,op,Cp,evp,hCp1,hCp2,hg,hSz⟩:=h.vp hp0
 obtain⟨bk,ok,rfl,hbk,-,hcells⟩:∃b off,Ak=some ⟨b,off,none⟩∧b<w.heap.size∧P b∧∀j (h:j<ks.length),w.cell? ⟨b,off+j,none⟩=some (.int .i64 (ks[j]:Nat)):=by
  rcases hK with h|h
  ·rw[h]at hk0;simp at hk0
  ·exact h
 have hgd:ks.getD 0 0=ks[0]:=by rw[List.getD_eq_getElem?_getD,List.getElem?_eq_getElem hk0];rfl
 obtain⟨W2,hW2⟩:∃W2,W2=(w.alloc (.cells #[.string (bs n.op),.string (bs n.s),.int .i64 n.n,.int .i64 n.a,.slice A L C] 24)).alloc (.cells #[.int .i64 0,.int .i64 0,.slice none 0 0,.int .i64 0,.int .i64 0,.int .i64 0,.slice none 0 0,.slice none 0 0] 47):=⟨_,rfl⟩
 have hb2:Below w.heap.size w W2:=by rw[hW2];exact vh w _ _
 have P2:zi W2 (w.heap.size+1) 47 #[.int .i64 0,.int .i64 0,.slice none 0 0,.int .i64 0,.int .i64 0,.int .i64 0,.slice none 0 0,.slice none 0 0]:=by rw[hW2];exact zi.new_at (by simp)
 have N2:zi W2 w.heap.size 24 #[.string (bs n.op),.string (bs n.s),.int .i64 n.n,.int .i64 n.a,.slice A L C]:=by rw[hW2];exact(zi.new w _ _).alloc _
 have c2:=h.has.cell 2;simp only[List.getElem?_toArray,List.getElem?_cons_zero,List.getElem?_cons_succ,evp]at c2;have lcb:=h.has.lt;have hsum:=GI c.parts ks (λk hk=>(hok k hk).2);have HW:Hid (W2=(w.alloc (.cells #[.string (bs n.op),.string (bs n.s),.int .i64 n.n,.int .i64 n.a,.slice A L C] 24)).alloc (.cells #[.int .i64 0,.int .i64 0,.slice none 0 0,.int .i64 0,.int .i64 0,.int .i64 0,.slice none 0 0,.slice none 0 0] 47)):=hW2;have hot:=zp n.op;have HSU:Hid (∀i (h:i<ks.length),yP c.parts ks (i+1)=yP c.parts ks i+sz c.parts ks[i]):=λi h=>X6 _ _ h
 have HAL:Hid (∀i (h:i<ks.length),xZ c.parts ks (i+1)=(xZ c.parts ks i&&(sz c.parts ks[i]==sz c.parts (ks.getD 0 0)))):=λi h=>KA _ _ h
 have HR:Hid (XZ c.parts n ks=if n.op=qE then(if yP c.parts ks ks.length≤8192 then .ok ⟨3,yP c.parts ks ks.length,ks,0,0,0,[],[]⟩else .error (134,n.a))else if xZ c.parts ks ks.length=true then .ok ⟨4,sz c.parts (ks.getD 0 0),ks,0,0,0,[],[]⟩else .error (134,n.a)):=by
  show XZ c.parts n ks=_;unfold XZ yP xZ;rw[List.take_length]
 have HAS:Hid (xZ c.parts ks ks.length=true→yP c.parts ks ks.length=sz c.parts (ks.getD 0 0)*ks.length):=by
  unfold yP xZ;rw[List.take_length];exact UT _ _ _
 have HSz:Hid (∀k ∈ ks,k<c.parts.length∧sz c.parts k≤8192):=hok
 obtain⟨NP,hNP⟩:∃NP,NP=c.parts.length:=⟨_,rfl⟩
 have HNP:Hid (NP=c.parts.length):=hNP;rw[←hNP]at hCp1 c2 evp
 obtain⟨Lk,hLk⟩:∃Lk,Lk=ks.length:=⟨_,rfl⟩
 have HLk:Hid (Lk=ks.length):=hLk;rw[←hLk]at hl2 hl4 hCk hk0 ⊢
 obtain⟨D,hD⟩:∃D:Nat→Nat,D=yP c.parts ks:=⟨_,rfl⟩
 obtain⟨E,hE⟩:∃E:Nat→Bool,E=xZ c.parts ks:=⟨_,rfl⟩
 have hD0:D 0=0:=by rw[hD];rfl
 have hE0:E 0=true:=by rw[hE];rfl
 rw[←hD]at HSU HR HAS hsum;rw[←hE]at HAL HR HAS;unfold qa;clear hW2 hNP hLk hD hE hok hK h hp0;have hL0:0<Lk:=hk0;go_enter Tryz.func106,Tryz.ntmps106
 go_wp2
 rw[←HW.out]
 go_loopw [7,8,13] (λz7 z8 z13 wr=>∃i:Nat,z7= .int .i64 (D i:Nat)∧z8= .bool (E i)∧z13= .int .i64 (i:Nat)∧i≤Lk∧Below W2.heap.size W2 wr) (λ_ _ z _=>Lk-(intOf z).toNat)
 case atStart=>exact⟨0,by rw[hD0];rfl,by rw[hE0],rfl,Nat.zero_le _,Below.refl _ _⟩
 case round =>
  obtain⟨i,rfl,rfl,rfl,hi,hB⟩:=hrel;have hD4:=hsum i;by_cases hlt:i<Lk
  ·have hlt':i<ks.length:=by rw[←HLk.out];exact hlt
   have hk0':0<ks.length:=by rw[←HLk.out];exact hL0
   have hB0:Below w.heap.size w wr:=hb2.trans (hB.mono hb2.size);have cki:=za hB0 (hcells i hlt');have k0r:=za hB0 (hcells 0 hk0');have c2r:=za hB0 c2;obtain⟨hKn',hSle⟩:=HSz.out _ (List.getElem_mem hlt');obtain⟨hK0n',hS0le⟩:=HSz.out _ (List.getElem_mem hk0');have sKr:=hSz.below hB0 hg _ hKn';have s0r:=hSz.below hB0 hg _ hK0n';have HSi:=HSU.out i hlt';have HAi:=HAL.out i hlt';rw[hgd]at HAi;rw[←HNP.out]at hKn' hK0n';have lcr:cb<wr.heap.size:=Nat.lt_of_lt_of_le lcb hB0.size;have lbk:bk<wr.heap.size:=Nat.lt_of_lt_of_le hbk hB0.size;have lg:g<wr.heap.size:=Nat.lt_of_lt_of_le hg hB0.size;generalize sz c.parts ks[i]=S at *;generalize sz c.parts ks[0]=S0 at *;generalize ks[i]=K at *;generalize ks[0]=K0 at *;have hKn:K<NP:=hKn';have hK0n:K0<NP:=hK0n';have HI1:Hid (D (i+1)=D i+S):=HSi;have HI2:Hid (E (i+1)=(E i&&(S==S0))):=HAi;clear HSi HAi hKn' hK0n'
   obtain⟨T,hT⟩:∃T,T=D i:=⟨_,rfl⟩
   obtain⟨B,hB'⟩:∃B,B=E i:=⟨_,rfl⟩
   rw[←hT]at HI1 hD4 ⊢;rw[←hB']at HI2 ⊢;have hTb:T≤40000:=by omega
   clear hT hB' hD4;have hint:(i:Int)<(Lk:Int):=by omega
   have hKint:(K:Int)<(NP:Int):=by omega
   cases B with
   |true =>
    go_wp2_with (first
     |((refine zb 15 rfl ?_)
       (refine zc (some 15) _ rfl (by rfl) (qz _ _ rfl bk ok i Lk Ck rfl rfl hlt wr) ?_))
     |((refine zb 24 rfl ?_)
       (refine zc (some 24) _ rfl (by rfl) (zJ _ _ rfl g op K NP Cp rfl rfl hKn wr) ?_)))
    refine wp_region_held_drew (S:=λwz=>wz.cell? ⟨cb,2,none⟩=some (.slice (some ⟨g,op,none⟩) NP Cp)∧wz.cell? ⟨bk,ok,none⟩=some (.int .i64 (K0:Nat))∧wz.cell? ⟨g,op+K*8+1,none⟩=some (.int .i64 (S:Nat))∧wz.cell? ⟨g,op+K0*8+1,none⟩=some (.int .i64 (S0:Nat))) (by kernel_rfl) (⟨c2r,k0r,sKr,s0r⟩) (λhHeld=>?_);refine zC 0 (some 28) (.bool true) hHeld ?_;simp only[Act.put,ze,zg,zf];refine zC 1 (some 29) (.bool true) hHeld ?_;simp only[Act.put,ze,zg,zf];refine zC 2 (some 30) (.pointer (some ⟨cb,0,none⟩)) hHeld ?_;simp only[Act.put,ze,zg,zf];refine zC 3 (some 31) (.pointer (some ⟨cb,0,none⟩)) hHeld ?_;simp only[Act.put,ze,zg,zf];refine zC 4 (some 32) (.pointer (some ⟨cb,0,none⟩)) hHeld ?_;simp only[Act.put,ze,zg,zf];refine zC 5 (some 33) (.pointer (some ⟨cb,2,none⟩)) hHeld ?_;simp only[Act.put,ze,zg,zf];refine zP 6 (some 34) (.slice (some ⟨g,op,none⟩) NP Cp) rfl rfl (λwz hz=>by obtain⟨z0,z1,z2,z3⟩:=hz;unfold execOp;go_simp) hHeld ?_;simp only[Act.put,ze,zg,zf];refine zC 7 (some 35) (.int .i64 (K:Nat)) hHeld ?_;simp only[Act.put,ze,zg,zf];refine zP 8 (some 36) (.pointer (some ⟨g,op+K*8,none⟩)) rfl rfl (λwz _=>zJ _ _ rfl g op K NP Cp rfl rfl hKn wz) hHeld ?_;simp only[Act.put,ze,zg,zf];refine zC 9 (some 37) (.pointer (some ⟨g,op+K*8+1,none⟩)) hHeld ?_;simp only[Act.put,ze,zg,zf];refine zP 10 (some 38) (.int .i64 (S:Nat)) rfl rfl (λwz hz=>by obtain⟨z0,z1,z2,z3⟩:=hz;unfold execOp;go_simp) hHeld ?_;simp only[Act.put,ze,zg,zf];refine zC 11 (some 39) (.pointer (some ⟨cb,0,none⟩)) hHeld ?_;simp only[Act.put,ze,zg,zf];refine zC 12 (some 40) (.pointer (some ⟨cb,0,none⟩)) hHeld ?_;simp only[Act.put,ze,zg,zf];refine zC 13 (some 41) (.pointer (some ⟨cb,0,none⟩)) hHeld ?_;simp only[Act.put,ze,zg,zf];refine zC 14 (some 42) (.pointer (some ⟨cb,2,none⟩)) hHeld ?_;simp only[Act.put,ze,zg,zf];refine zP 15 (some 43) (.slice (some ⟨g,op,none⟩) NP Cp) rfl rfl (λwz hz=>by obtain⟨z0,z1,z2,z3⟩:=hz;unfold execOp;go_simp) hHeld ?_;simp only[Act.put,ze,zg,zf];refine zC 16 (some 44) (.slice (some ⟨bk,ok,none⟩) Lk Ck) hHeld ?_;simp only[Act.put,ze,zg,zf];refine zP 17 (some 45) (.pointer (some ⟨bk,ok,none⟩)) rfl rfl (λwz _=>qz _ _ rfl bk ok 0 Lk Ck rfl rfl hL0 wz) hHeld ?_;simp only[Act.put,ze,zg,zf];refine zP 18 (some 46) (.int .i64 (K0:Nat)) rfl rfl (λwz hz=>by obtain⟨z0,z1,z2,z3⟩:=hz;unfold execOp;go_simp) hHeld ?_;simp only[Act.put,ze,zg,zf];refine zP 19 (some 47) (.pointer (some ⟨g,op+K0*8,none⟩)) rfl rfl (λwz _=>zJ _ _ rfl g op K0 NP Cp rfl rfl hK0n wz) hHeld ?_;simp only[Act.put,ze,zg,zf];refine zC 20 (some 48) (.pointer (some ⟨g,op+K0*8+1,none⟩)) hHeld ?_;simp only[Act.put,ze,zg,zf];refine zP 21 (some 49) (.int .i64 (S0:Nat)) rfl rfl (λwz hz=>by obtain⟨z0,z1,z2,z3⟩:=hz;unfold execOp;go_simp) hHeld ?_;simp only[Act.put,ze,zg,zf];refine zP 22 (some 50) (.bool (S==S0)) rfl rfl (λwz _=>kC _ _ rfl S S0 rfl rfl wz) hHeld ?_;simp only[Act.put,ze,zg,zf];refine zC 23 (some 51) (.bool (S==S0)) hHeld ?_;simp only[Act.put,ze,zg,zf];refine zC 24 (some 8) (.bool (S==S0)) hHeld ?_;simp only[Act.put,ze,zg,zf];refine wpAnyH_done (by kernel_rfl) ?_ _
    go_wp2
    go_roundw
    case rel=>exact⟨i+1,by rw[HI1.out];go_num,by rw[HI2.out];rfl,by go_num,by omega,zm hB⟩
    case measure=>simp[intOf];omega
   |false =>
    go_wp2_with (first
     |((refine zb 15 rfl ?_)
       (refine zc (some 15) _ rfl (by rfl) (qz _ _ rfl bk ok i Lk Ck rfl rfl hlt wr) ?_))
     |((refine zb 24 rfl ?_)
       (refine zc (some 24) _ rfl (by rfl) (zJ _ _ rfl g op K NP Cp rfl rfl hKn wr) ?_)))
    go_quiet (fail)
    go_wp2
    go_roundw
    case rel=>exact⟨i+1,by rw[HI1.out];go_num,by rw[HI2.out];rfl,by go_num,by omega,qM hB _⟩
    case measure=>simp[intOf];omega
  ·obtain rfl:i=Lk:=by omega
   rw[←HLk.out]at HAS HR;have hB0:Below w.heap.size w wr:=hb2.trans (hB.mono hb2.size);have P3:=P2.below hB P2.lt;have N3:=N2.below hB N2.lt;have nc0:=N3.cell 0;have nc3:=N3.cell 3;have ln3:=N3.lt;have lp3:=P3.lt;have a0:=P3.cell 0;have b0:=P3.free 0;have a1:=P3.cell 1;have b1:=P3.free 1;have a2:=P3.cell 2;have b2:=P3.free 2;have a3:=P3.cell 3;have b3:=P3.free 3;have a4:=P3.cell 4;have b4:=P3.free 4;have a5:=P3.cell 5;have b5:=P3.free 5;have a6:=P3.cell 6;have b6:=P3.free 6;have a7:=P3.cell 7;have b7:=P3.free 7
   obtain⟨T,hT⟩:∃T,T=D i:=⟨_,rfl⟩
   obtain⟨B,hB'⟩:∃B,B=E i:=⟨_,rfl⟩
   rw[←hT]at HAS HR hD4 ⊢;rw[←hB']at HAS HR ⊢;have hTb:T≤40000:=by omega
   obtain⟨s0,hs0⟩:∃s0,s0=sz c.parts (ks.getD 0 0):=⟨_,rfl⟩
   rw[←hs0]at HAS HR;clear hT hB' hs0 hD4 HSU HAL;have fin:∀(kd s:Nat) (kk:List Nat),yH w (KT (.ok ⟨kd,s,kk,0,0,0,[],[]⟩)) (.returned (.agg #[.int .i64 (kd:Nat),.int .i64 (s:Nat),.slice none 0 0,.int .i64 0,.int .i64 0,.int .i64 0,.slice none 0 0,.slice none 0 0])) (Jw wr (w.heap.size+1) (.int .i64 (kd:Nat)) (.int .i64 (s:Nat)) (.slice none 0 0) (.int .i64 0) (.int .i64 0) (.int .i64 0) (.slice none 0 0) (.slice none 0 0)):=λkd s kk=>⟨KG hB0 (Nat.le_succ _) _ _ _ _ _ _ _ _,(.slice none 0 0,.slice none 0 0,.slice none 0 0),rfl,⟨none,0,rfl,Nat.le_refl _,by unfold maxLen;omega,.inl rfl⟩,⟨none,0,rfl,Nat.le_refl _,by unfold maxLen;omega,.inl rfl⟩,⟨none,0,rfl,Nat.le_refl _,by unfold maxLen;omega,.inl rfl⟩⟩
   by_cases hco:n.op=qE
   ·have HR:=HR.out.trans (if_pos hco)
    have f0:(n.op== [99,111,110,99,97,116])=true:=by rw[hco];decide
    clear hco;by_cases hle:T≤8192
    ·have HQ:=zk (HR.trans (if_pos hle))
     clear HR;have hTi:(T:Int)≤8192:=by omega
     have hTd:decide (T≤8192)=true:=decide_eq_true hle
     go_wp2_with (first
      |((go_at_call 63)
        refine(zX 134 n.a _).mono ?_;rintro e w5 ⟨rfl,hw5⟩;(obtain rfl:wr=w5:=hw5.symm)))
     exact vA rfl rfl (P3.set8 _ _ _ _ _ _ _ _) rfl (by rw[HQ.out];exact fin 3 T ks)
    ·have HQ:=zk (HR.trans (if_neg hle))
     clear HR;have hTi:¬(T:Int)≤8192:=by omega
     have hTd:decide (T≤8192)=false:=decide_eq_false hle
     go_wp2_with (first
      |((go_at_call 63)
        refine(qx 134 n.a _).mono ?_;(rintro e w5 ⟨rfl,rfl⟩)))
     exact⟨rfl,hB0,by rw[HQ.out];rfl⟩
   ·have HR:=HR.out.trans (if_neg hco)
    have f0:(n.op== [99,111,110,99,97,116])=false:=by rw[beq_eq_false_iff_ne];exact hco
    clear hco;cases B with
    |true =>
     have HQ:=zk (HR.trans (if_pos rfl));clear HR;have hq:=HAS.out rfl;have hle:s0*i≤1000000:=by omega
     subst hq
     go_wp2_with (first
      |((go_at_call 63)
        refine(zX 134 n.a _).mono ?_;rintro e w5 ⟨rfl,hw5⟩;(obtain rfl:wr=w5:=hw5.symm))
      |((refine zb 70 rfl ?_)
        (refine zc (some 70) (.int .i64 (s0:Nat)) rfl (by rfl) (GQ _ _ rfl s0 i rfl rfl hL0 hle wr) ?_)))
     exact vA rfl rfl (P3.set8 _ _ _ _ _ _ _ _) rfl (by rw[HQ.out];exact fin 4 s0 ks)
    |false =>
     have HQ:=zk (HR.trans (if_neg (by decide)));clear HR
     go_wp2_with (first
      |((go_at_call 63)
        refine(qx 134 n.a _).mono ?_;(rintro e w5 ⟨rfl,rfl⟩)))
     exact⟨rfl,hB0,by rw[HQ.out];rfl⟩
end
end Go.Proofs.YtgljdaakdpgpkaaGreatDoor
