import Derived.Test.YtgljdaakdpgpkaaGreatDoorJoint02
import Derived.Test.YtgljdaakdpgpkaaGreatDoorJoint00
namespace Go.Proofs.YtgljdaakdpgpkaaGreatDoor
set_option linter.unusedVariables false
set_option maxRecDepth 100000
set_option maxHeartbeats 40000000
section
open Go.ChangeShapes Go.WideShapes Go.ChangeAt Go.RowKit
theorem xX.get{w:World}{A:Option Addr}{L C:Nat}{ks:List Kd}(h:xX w (.slice A L C) (kw ks)):L=ks.length∧L≤C∧(0<ks.length→C≤ks.length)∧∀i (hi:i<ks.length),∃g,A=some ⟨g,0,none⟩∧w.cell? ⟨g,i,none⟩=some (.string (bs ks[i].w)):=by
 rcases h with⟨h,e⟩|⟨g,e,h⟩
 ·cases e
  have :ks= []:=by cases ks with
   |nil=>rfl
   |cons a b=>simp[kw]at h
  subst this;exact⟨rfl,Nat.le_refl _,λh=>Nat.zero_le _,λi hi=>by simp at hi⟩
 ·simp only[kw,List.length_map]at e
  cases e;refine⟨rfl,Nat.le_refl _,λ_=>Nat.le_refl _,λi hi=>⟨g,rfl,?_⟩⟩;rw[h.cell];simp[kw,hi]
end
section
open Go.ChangeShapes Go.WideShapes Go.ChangeAt Go.RowKit
section
variable {P:Program} {ops:Array Oper} {Q:Exit→Act→World→Prop} {md:Region.Mode} {S:World→Prop} {m:Nat}
theorem J0{k i:Nat}{listed:Array Bool}(hw:jE md ops k i=true)(hi:listed.getD i true=false):k ∉ Region.ready md ops listed:=by
 intro hm;obtain⟨_,o,ho,hall⟩:=mem_ready.1 hm;simp only[jE,ho,Option.any_some,Array.any_eq_true',Bool.and_eq_true,beq_iff_eq]at hw;obtain⟨e,he,hb,rfl⟩:=hw;have h1:=hall e he hb;by_cases hlt:e.on<listed.size
 ·simp[hlt]at hi h1
  rw[hi]at h1;cases h1
 ·simp[Array.getElem?_eq_none (Nat.not_lt.1 hlt)]at h1
def Jq(md:Region.Mode)(ops:Array Oper):Nat→List Nat→Bool
 |_,[]=>true
 |i,k::ks=>jE md ops k i&&Jq md ops k ks
theorem QF{listed:Array Bool}:∀ {ks:List Nat} {i m:Nat},Jq md ops i (ks++ [m])=true→listed.getD i true=false→(∀k ∈ ks,listed.getD k true=false)→m ∉ Region.ready md ops listed∧∀k ∈ ks,k ∉ Region.ready md ops listed
 | [],i,m,hc,hi,hk=>by
   have hc':(jE md ops m i&&true)=true:=hc;rw[Bool.and_true]at hc';exact⟨J0 hc' hi,λk hk=>by cases hk⟩
 |k::ks,i,m,hc,hi,hk=>by
  have hc':(jE md ops k i&&Jq md ops k (ks++ [m]))=true:=hc;rw[Bool.and_eq_true]at hc';obtain⟨h1,h2⟩:=QF hc'.2 (hk k (List.mem_cons_self ..)) (λq hq=>hk q (List.mem_cons_of_mem _ hq));refine⟨h1,λq hq=>?_⟩;rcases List.mem_cons.1 hq with rfl|h3
  ·exact J0 hc'.1 hi
  ·exact h2 q h3
theorem j2.frontC{i:Nat}{oi:Oper}{v:Value}(ks:List Nat)(hi:ops[i]?=some oi)(him:i≠m)(hch:Jq md ops i (ks++ [m])=true)(hsel:∀(j:Nat) (o:Oper) cs b,ops[j]?=some o→o.op≠ .select cs b)
 (hQ:∀c a w,Q (.panic c) (a.put oi.dst v) w→Q (.panic c) a w):∀(n:Nat) (listed:Array Bool) (a:Act) (w:World),(∀k ∈ ks,listed.getD k true=false) →
   (∀j oj,ops[j]?=some oj→j≠i→listed.getD j true=false→(∀e ∈ oj.after,Region.binds md e=true→e.on≠i)→oi.apart ops oj=true) →
   i ∈ Region.ready md ops listed→YieldsIf P ops S oi v a→S w→j2 P md ops Q S m n (listed.setIfInBounds i true) (a.put oi.dst v) w→j2 P md ops Q S m (n+1) listed a w
 |n,listed,a,w,hun,hfree,hr,hy,hS,H=>by
  refine⟨λh=>absurd (h ▸ hr) (by simp),λj hj=>?_⟩;by_cases hji:j=i
  ·subst hji
   exact hy.wpOp hi hS ⟨λ_=>hS,H⟩
  obtain⟨hm0,hk0⟩:=QF hch (mem_ready.1 hr).1 hun;have hjm:j≠m:=λe=>hm0 (e ▸ hj)
  have hj':=ready_mono hj hji;cases n with
  |zero=>exact absurd (H.1 ▸ hj') (by simp)
  |succ n =>
   obtain⟨hjun,oj,hoj,hall⟩:=mem_ready.1 hj
   have hno:∀e ∈ oj.after,Region.binds md e=true→e.on≠i:=by
    intro e he hb heq;have h1:=hall e he hb;have h0:=(mem_ready.1 hr).1;subst heq;by_cases hlt:e.on<listed.size
    ·simp[hlt]at h0 h1
     rw[h0]at h1;cases h1
    ·simp[Array.getElem?_eq_none (Nat.not_lt.1 hlt)]at h1
   refine wpOp_mono ?_ (wpOp_putIf hoj (hfree j oj hoj hji hjun hno) (λcs b=>hsel i oi cs b hi) (λcs b=>hsel j oj cs b hoj) hQ hy (H.2 j hj'));rintro a' w' ⟨hy',hS',H'⟩;refine⟨hS',j2.frontC ks hi him hch hsel hQ n (listed.setIfInBounds j true) a' w' (λk hk=>?_) (λk ok hk hki hun hn=>hfree k ok hk hki ?_ hn) (ready_mono hr (Ne.symm hji)) hy' (hS' hjm) ?_⟩
   ·have hjk:j≠k:=λe=>hk0 k hk (e ▸ hj)
    rw[getD_set_ne true hjk];exact hun k hk
   ·by_cases hjk:j=k
    ·subst hjk;exact hjun
    ·rwa [getD_set_ne true hjk]at hun
   ·rw[Array.setIfInBounds_comm _ _ hji]
    exact H'
theorem xq{oi:Oper}(i:Nat)(ks:List Nat)(d:Option Tmp)(v:Value){n:Nat}{listed:Array Bool}{a:Act}{w:World}(hi:ops[i]?=some oi)(hd:oi.dst=d)(him:i≠m)(hch:Jq md ops i (ks++ [m])=true)(hun:ks.all (λk=>listed.getD k true==false)=true)
 (hs:Region.noSelect ops=true) (hf:Region.free md ops listed i=true) (hr:(Region.ready md ops listed).contains i=true)
 (hQ:∀c a w,Q (.panic c) (a.put d v) w→Q (.panic c) a w) (hw:Region.wanted oi (yielded ops a.tmps)=true) (hy:∀w,S w→(execOp a.eval oi).run P w= .ok (.value v) w) (hS:S w)
 (h:j2 P md ops Q S m n (listed.setIfInBounds i true) (a.put d v) w):j2 P md ops Q S m (n+1) listed a w:=by
 subst hd;refine j2.frontC ks hi him hch (Region.noSelect_spec hs) hQ n listed a w (λk hk=>?_) (Region.free_spec hi hf) (by simpa using hr) (.inl ⟨hw,hy⟩) hS h;have:=List.all_eq_true.1 hun k hk
 simpa using this
end
end
section
open Go.ChangeShapes Go.WideShapes Go.ChangeAt Go.RowKit
theorem VI{o:Oper}{a:Act}(ty:TypeId)(x:Operand)(ho:o.op= .load ty x)(hty:ty=9∨ty=3)(p:Addr)(hx:a.eval x= .pointer (some p))(v:Value)(w:World)(h:w.cell? p=some v):(execOp a.eval o).run Tryz.prog w= .ok (.value v) w:=by
 unfold execOp;simp only[ho,hx];rcases hty with rfl|rfl
 ·go_simp
 ·go_simp
theorem Kp.setRow{p:Nat}{w w':World}(h:Kp p w w'){g:Nat}(hg:w.heap.size≤g)(X:Array Value):Kp p w (w'.setRow g X):=
 ⟨h.os,h.tape,h.output,by have:=h.size;simpa using this,λk hk hn=>(setRow_other w' g k X (by omega)).trans (h.block k hk hn)⟩
theorem j6.setRow{w:World}{P:Nat→Prop}{l:List Nd}{v:Value}(h:j6 w P l v){g:Nat}(hq:∀k,P k→k≠g)(X:Array Value):j6 (w.setRow g X) P l v:=
 h.keep λk o hk ho=>(setRow_other w g k X (hq k hk)).trans ho
theorem Xa:bs zd=⟨#[100,101,118,105,99,101]⟩:=rfl
theorem JL:bs zj=⟨#[106,111,117,114,110,97,108]⟩:=rfl
theorem Dk:bs qj=⟨#[107,101,121]⟩:=rfl
theorem fc:bs zS=⟨#[114,111,111,116]⟩:=rfl
theorem Gw:bs zr=⟨#[118,111,108,117,109,101]⟩:=rfl
theorem un:bs zH=⟨#[101,120,112,111,114,116]⟩:=rfl
theorem gp{p:Tk→Bool}{en:Nat}{ts r:zt}{t:Tk×Nat}(h:zB p en ts= .ok (t,r)):p t.1=true:=by
 cases ts with
 |nil=>cases h
 |cons u us =>
  simp only[zB]at h
  split at h
  ·rename_i hp;cases h;exact hp
  ·cases h
def ua(t u:Tk×Nat):jY Nd:=zx (vN t.1.s) λr=>zx (zB (v7 [59])) λ_=>jw (.mk t.1.s u.1.s r.1 t.2 r.2)
theorem uk{en:Nat}{ts:zt}{e:Nat×Nat}(h:zB (yY v8) en ts= .error e):qy en ts= .error e:=by
 unfold qy zx;rw[h]
theorem Gu{en:Nat}{ts r:zt}{t:Tk×Nat}{e:Nat×Nat}(h:zB (yY v8) en ts= .ok (t,r))(h2:zB j3 en r= .error e):qy en ts= .error e:=by
 unfold qy zx;simp only[h,h2]
theorem KM{en:Nat}{ts r r':zt}{t u:Tk×Nat}(h:zB (yY v8) en ts= .ok (t,r))(h2:zB j3 en r= .ok (u,r')):qy en ts=ua t u en r':=by
 unfold qy;show zx _ _ en ts=_;rw[zx,h];show zx _ _ en r=_;rw[zx,h2];rfl
theorem JI(f en:Nat)(t:Tk×Nat)(r:zt):jF (f+1) en (t::r)=match qy en (t::r)with | .error e=> .error e| .ok (n,r')=>pre [n] (jF f en r'):=by
 show zx qy _ en (t::r)=_;unfold zx;cases qy en (t::r)with
 |error e=>rfl
 |ok x =>
  obtain⟨n,r'⟩:=x;simp only;cases jF f en r' with
  |error e=>rfl
  |ok y=>obtain⟨m,r''⟩:=y;rfl
theorem Zz{en:Nat}{ts r:zt}{n:Nd}(h:qy en ts= .ok (n,r)):r.length+1≤ts.length:=by
 cases hT1:zB (yY v8) en ts with
 |error e=>rw[uk hT1]at h;cases h
 |ok x =>
  obtain⟨t,r1⟩:=x;have:=x9 hT1;cases hT2:zB j3 en r1 with
  |error e=>rw[Gu hT1 hT2]at h;cases h
  |ok y =>
   obtain⟨u,r2⟩:=y;have h2:=x9 hT2;rw[KM hT1 hT2]at h;have hs:zu (ua t u):=(Qm _).bind λ_=>(zu.take _).bind λ_=>zu.ret _
   have:=ky hs h;omega
theorem zn{w:World}{g t:Nat}{cs:Array Value}(h:zi w g t cs):zi w.drew g t cs:=h
theorem zm{B:Nat}{a w:World}(h:Below B a w):Below B a w.drew:=⟨h.os,h.tape,h.output,h.size,h.block⟩
theorem zi.oth5{w:World}{g g' t:Nat}{cs:Array Value}(h:zi w g t cs)(hne:g≠g')(x0 x1 x2 x3 x4:Value):zi (xI w g' x0 x1 x2 x3 x4) g t cs:=
 ((((h.other (p:=⟨g',0,none⟩) hne x0).other (p:=⟨g',1,none⟩) hne x1).other (p:=⟨g',2,none⟩) hne x2).other (p:=⟨g',3,none⟩) hne x3).other (p:=⟨g',4,none⟩) hne x4
theorem b5{w:World}{p:Nat}(x0 x1 x2 x3 x4 y z:Value)(o:Obj)(hp:p≤w.heap.size):Below p w ((((xI w p x0 x1 x2 x3 x4).setCell ⟨p+1,0,none⟩ y).setCell ⟨p+2,0,none⟩ z).alloc o).drew:=by
 have h0:Below p w (((xI w p x0 x1 x2 x3 x4).setCell ⟨p+1,0,none⟩ y).setCell ⟨p+2,0,none⟩ z):=(((((((Below.refl p w).setCell (p:=⟨p,0,none⟩) (Nat.le_refl p) x0).setCell (p:=⟨p,1,none⟩) (Nat.le_refl p) x1).setCell (p:=⟨p,2,none⟩) (Nat.le_refl p) x2).setCell (p:=⟨p,3,none⟩) (Nat.le_refl p) x3).setCell (p:=⟨p,4,none⟩) (Nat.le_refl p) x4).setCell (p:=⟨p+1,0,none⟩) (by show p≤p+1;omega) y).setCell (p:=⟨p+2,0,none⟩) (by show p≤p+2;omega) z;exact zm (h0.alloc (by have:=h0.size;omega) o)
theorem fh{w W:World}(h:Below w.heap.size w W)(x0 x1 x2 x3 x4:Value):Below w.heap.size w (xI W w.heap.size x0 x1 x2 x3 x4):=
 ((((h.setCell (p:=⟨w.heap.size,0,none⟩) (Nat.le_refl _) x0).setCell (p:=⟨w.heap.size,1,none⟩) (Nat.le_refl _) x1).setCell (p:=⟨w.heap.size,2,none⟩) (Nat.le_refl _) x2).setCell (p:=⟨w.heap.size,3,none⟩) (Nat.le_refl _) x3).setCell (p:=⟨w.heap.size,4,none⟩) (Nat.le_refl _) x4
theorem Qc{fn:Func}{R:Ending→World→Prop}{a:Act}{W:World}{s t u g:Nat}{x0 x1 x2 x3 x4 y z:Value}(hr:fn.results= #[.cell s 24,.tmp t,.tmp u])(hs:a.tmps[s]?.getD undef= .pointer (some ⟨g,0,none⟩))(ht:a.tmps[t]?.getD undef=y)(hu:a.tmps[u]?.getD undef=z)(hH:zi W g 24 #[x0,x1,x2,x3,x4])(hd:a.defers= [])(h:R (.returned (.tuple #[.agg #[x0,x1,x2,x3,x4],y,z])) W):bodyPost Tryz.prog fn R .ret a W:=by
 have q0:=hH.cell 0;have q1:=hH.cell 1;have q2:=hH.cell 2;have q3:=hH.cell 3;have q4:=hH.cell 4;exact bodyPost_ret (by simp only[results,hr];simp[hs,ht,hu,go_sem,q0,q1,q2,q3,q4]) hd h
inductive Rd (w:World):List Nd→Value→Prop where
 |mk (l:List Nd) (vs:List Value) (A:Option Addr) (C:Nat):vs.length=l.length→l.length≤C→C≤9223372036854775807 →
   (∀i (h:i<l.length) (h':i<vs.length),∃g off,A=some ⟨g,off,none⟩∧g<w.heap.size∧∀j,j<5→w.cell? ⟨g,off+i*5+j,none⟩=(qa l[i] vs[i])[j]?) →
   (∀i (h:i<l.length) (h':i<vs.length),Rd w l[i].l vs[i])→(∀x ∈ l,x.s.length<maxLen∧x.op.length<maxLen)→Rd w l (.slice A l.length C)
theorem Rd.grow{w w':World}{l:List Nd}{v:Value}(h:Rd w l v)(hb:Below w.heap.size w w'):Rd w' l v:=by
 induction h with
 |mk l vs A C h1 h2 h3 h4 h5 h6 ih =>
  refine .mk l vs A C h1 h2 h3 (λi h h'=>?_) ih h6;obtain⟨g,off,e,hg,hc⟩:=h4 i h h';exact⟨g,off,e,Nat.lt_of_lt_of_le hg hb.size,λj hj=>(hb.cell (p:=⟨g,off+i*5+j,none⟩) hg).trans (hc j hj)⟩
theorem Rd.slice{w:World}{l:List Nd}{v:Value}(h:Rd w l v):∃A C,v= .slice A l.length C∧l.length≤C∧C≤9223372036854775807:=by
 cases h with
 |mk l vs A C h1 h2 h3=>exact⟨A,C,rfl,h2,h3⟩
theorem Rd.get{w:World}{l:List Nd}{A:Option Addr}{L C:Nat}(h:Rd w l (.slice A L C))(i:Nat)(hi:i<l.length):∃g off u,A=some ⟨g,off,none⟩∧g<w.heap.size∧(∀j,j<5→w.cell? ⟨g,off+i*5+j,none⟩=(qa l[i] u)[j]?)∧Rd w l[i].l u∧l[i].s.length<maxLen∧l[i].op.length<maxLen:=by
 cases h with
 |mk l vs A C h1 h2 h3 h4 h5 h6 =>
  obtain⟨g,off,e,hg,hc⟩:=h4 i hi (by omega);obtain⟨h7,h8⟩:=h6 _ (List.getElem_mem hi);exact⟨g,off,vs[i],e,hg,hc,h5 i hi (by omega),h7,h8⟩
inductive Js:Nd→Prop where
 |mk (op s:List UInt8) (n a:Int) (l:List Nd):op.length≤1000→s.length≤1000→(∀x ∈ l,Js x)→Js (.mk op s n a l)
theorem Js.s{n:Nd}(h:Js n):n.s.length≤1000:=by cases h;assumption
theorem Js.op{n:Nd}(h:Js n):n.op.length≤1000:=by cases h;assumption
theorem Js.l{n:Nd}(h:Js n):∀x ∈ n.l,Js x:=by cases h;assumption
theorem j6.rd{w:World}{P:Nat→Prop}{l:List Nd}{v:Value}(h:j6 w P l v)(hs:∀x ∈ l,Js x):Rd w l v:=by
 induction h with
 |mk l vs v h1 h2 h3 h4 ih =>
  have hk:=λi (h:i<l.length) (h':i<vs.length)=>ih i h h' (hs _ (List.getElem_mem h)).l
  have hm:∀x ∈ l,x.s.length<maxLen∧x.op.length<maxLen:=λx hx=>⟨by have:=(hs x hx).s;unfold maxLen;omega,by have:=(hs x hx).op;unfold maxLen;omega⟩
  rcases h2.2 with⟨rfl,h0⟩|⟨g,cap,cur,rfl,_,hg,hn,hm2,hsz,ht⟩
  ·have :l= []:=List.length_eq_zero_iff.1 h0
   subst this;exact .mk [] vs none 0 h1 (Nat.le_refl _) (by omega) (λi h=>by simp at h) hk hm
  ·refine .mk l vs (some ⟨g,0,none⟩) cap h1 hn hm2 (λi h h'=>⟨g,0,rfl,(Array.getElem?_eq_some_iff.1 hg).1,λj hj=>?_⟩) hk hm
   rw[Nat.zero_add,←Vt l vs i h h' j hj,←ht,List.getElem?_take_of_lt (by omega),Array.getElem?_toList];exact cell_of_row w g (i*5+j) cur _ _ hg
def Zo(x:List UInt8):Option (Tk×Nat):=match vK x with
 | .ok [t]=>some t
 |_=>none
def vC(o:Option (Tk×Nat)):Value:=match o with
 |some t=> .tuple #[.agg (jy t.1 t.2),.bool true]
 |none=> .tuple #[.agg #[.int .i64 0,.string ⟨#[]⟩,.int .i64 0,.int .i64 0],.bool false]
def yb(x:List UInt8):Bool:=match Zo x with
 |some t=>j3 t.1&&t.1.s==x
 |none=>false
def KU(x:List UInt8):Bool:=match Zo (36::x)with
 |some t=>t.1.kind==2&&t.1.s==x
 |none=>false
theorem Xc{fn:Func}{R:Ending→World→Prop}{a:Act}{W:World}{s t g:Nat}{x0 x1 x2 x3 y:Value}(hr:fn.results= #[.cell s 79,.tmp t])(hs:a.tmps[s]?.getD undef= .pointer (some ⟨g,0,none⟩))(ht:a.tmps[t]?.getD undef=y)(hH:zi W g 79 #[x0,x1,x2,x3])(hd:a.defers= [])(h:R (.returned (.tuple #[.agg #[x0,x1,x2,x3],y])) W):bodyPost Tryz.prog fn R .ret a W:=by
 have q0:=hH.cell 0;have q1:=hH.cell 1;have q2:=hH.cell 2;have q3:=hH.cell 3;exact bodyPost_ret (by simp only[results,hr];simp[hs,ht,go_sem,q0,q1,q2,q3]) hd h
theorem Dj{w W:World}(h:Below w.heap.size w W)(x0 x1 x2 x3:Value):Below w.heap.size w ((((W.setCell ⟨w.heap.size,0,none⟩ x0).setCell ⟨w.heap.size,1,none⟩ x1).setCell ⟨w.heap.size,2,none⟩ x2).setCell ⟨w.heap.size,3,none⟩ x3):=
 (((h.setCell (p:=⟨w.heap.size,0,none⟩) (Nat.le_refl _) x0).setCell (p:=⟨w.heap.size,1,none⟩) (Nat.le_refl _) x1).setCell (p:=⟨w.heap.size,2,none⟩) (Nat.le_refl _) x2).setCell (p:=⟨w.heap.size,3,none⟩) (Nat.le_refl _) x3
theorem ka(x:List UInt8)(w:World)(hm:x.length≤maxLen):Calls Tryz.prog 75 #[.string (bs x)] w λe w'=>e= .returned (vC (Zo x))∧Below w.heap.size w w':=by
 have other:∀(A:Option Addr) (L C:Nat) (er o:Int),¬(L:Int)=1→(L:Int)≤9223372036854775807→(∀W,Calls Tryz.prog 91 #[.string (bs x)] W λe w'=>∃A C,e= .returned (.tuple #[.slice A L C,.int .i64 er,.int .i64 o])∧Below W.heap.size W w')→Zo x=none →
  Calls Tryz.prog 75 #[.string (bs x)] w λe w'=>e= .returned (vC (Zo x))∧Below w.heap.size w w':=by
  intro A L C er o hL hL2 hsc hn;rw[hn];clear hn hm;go_enter Tryz.func75,Tryz.ntmps75
  go_wp2_with (first
   |((go_at_call 91)
     refine(hsc _).mono ?_;rintro e w1 ⟨A,C,rfl,hb1⟩;have ha1:=(zi.new w 79 #[.int .i64 0,.string ⟨#[]⟩,.int .i64 0,.int .i64 0]).below hb1 (by simp);have a0:=ha1.cell 0;have a1:=ha1.cell 1;have a2:=ha1.cell 2;have a3:=ha1.cell 3;have f0:=ha1.free 0;have f1:=ha1.free 1;have f2:=ha1.free 2;have f3:=ha1.free 3;(have la:=ha1.lt)))
  have hb:Below w.heap.size w w1:=(zh w _).trans (hb1.mono (by simp));exact Xc rfl rfl rfl (ha1.set4 _ _ _ _) rfl ⟨rfl,Dj hb _ _ _ _⟩
 cases hS:vK x with
 |error r =>
  obtain⟨er,o⟩:=r;exact other none 0 0 er o (by decide) (by decide) (λW=>(Xm W x hm hS).mono λe w' h=>⟨none,0,h.1,h.2⟩) (by unfold Zo;rw[hS])
 |ok ts =>
  have hlen:=(yA hS).1;have hsc:=λW=>kS W x hm hS
  by_cases h1:ts.length=1
  ·obtain⟨t,rfl⟩:=List.length_eq_one_iff.1 h1
   have hT:Zo x=some t:=by unfold Zo;rw[hS]
   rw[hT]
   have hsc':∀W,Calls Tryz.prog 91 #[.string (bs x)] W λe w'=>∃g C,e= .returned (.tuple #[.slice (some ⟨g,0,none⟩) 1 C,.int .i64 0,.int .i64 (-1)])∧Below W.heap.size W w'∧g<w'.heap.size∧1≤C∧C≤9223372036854775807∧w'.cell? ⟨g,0,none⟩=some (.int .i64 (t.1.kind:Nat))∧w'.cell? ⟨g,1,none⟩=some (.string (bs t.1.s))∧w'.cell? ⟨g,2,none⟩=some (.int .i64 (t.1.n:Nat))∧w'.cell? ⟨g,3,none⟩=some (.int .i64 (t.2:Nat)):=by
    intro W;refine(hsc W).mono ?_;rintro e w' ⟨A,C,rfl,hb,htr⟩;obtain⟨g,C',e,q1,q2,q3,q4,_,hc⟩:=htr.lies (by simp);cases e;exact⟨g,C,rfl,hb,q2,q3,q4,hc 0 (by simp) 0 (by decide),hc 0 (by simp) 1 (by decide),hc 0 (by simp) 2 (by decide),hc 0 (by simp) 3 (by decide)⟩
   clear hsc hT hS h1 other hm hlen;go_enter Tryz.func75,Tryz.ntmps75
   go_wp2_with (first
    |((go_at_call 91)
      refine(hsc' _).mono ?_;rintro e w1 ⟨g,C,rfl,hb1,hgl,hC1,hC2,d0,d1,d2,d3⟩;have ha1:=(zi.new w 79 #[.int .i64 0,.string ⟨#[]⟩,.int .i64 0,.int .i64 0]).below hb1 (by simp);have a0:=ha1.cell 0;have a1:=ha1.cell 1;have a2:=ha1.cell 2;have a3:=ha1.cell 3;have f0:=ha1.free 0;have f1:=ha1.free 1;have f2:=ha1.free 2;have f3:=ha1.free 3;(have la:=ha1.lt)))
   have hb:Below w.heap.size w w1:=(zh w _).trans (hb1.mono (by simp));exact Xc rfl rfl rfl (ha1.set4 _ _ _ _) rfl ⟨rfl,Dj hb _ _ _ _⟩
  ·refine other none ts.length 0 0 (-1) (by omega) (by omega) (λW=>(hsc W).mono λe w' ⟨A,C,h,hb,_⟩=>⟨A,C,h,hb⟩) ?_
   unfold Zo;rw[hS]
   match ts,h1 with
   | [],_=>rfl
   | [t],h=>exact absurd rfl h
   |_::_::_,_=>rfl
def yE(n:Int):Bool:=decide (0≤n)&&decide (n≤999999999)
def j4(re:Nd→Bool):Kd→Nd→Bool
 | .nu,n=>n.op==vH&&n.s== []&&yE n.n&&decide (n.l.length=0)
 | .na,n=>n.op==jN&&yb n.s&&decide (n.n=0)&&decide (n.l.length=0)
 | .ex,n=>re n
def JD(ks:List Kd)(i:Nat):Kd:=ks.getD (min i (ks.length-1)) .ex
def KL(ks:List Kd)(more:Bool)(L:Nat):Bool:= !(decide (ks.length=0))&& !(decide (L<ks.length))&& !(decide (ks.length<L)&& !more)
def jV(re:Nd→Bool)(n:Nd):Bool:=KL (zQ n.op).1 (zQ n.op).2 n.l.length&&(List.range n.l.length).all λi=>j4 re (JD (zQ n.op).1 i) (n.l.getD i (.mk [] [] 0 0 []))
def qg:Nat→Nd→Bool
 |0,_=>false
 |d+1,n=>decide (n.n=0)&&(if n.op=ye then yb n.s&&decide (n.l.length=0)else n.s== []&&jV (qg d) n)
def yS(n:Nd):Bool:=n.op==Z3&&KU n.s&&decide (n.n=0)&&decide (n.l.length=0)
def vS(n:Nd):Bool:=yb n.s &&
 (if n.op=zd∨n.op=zj then yE n.n&&decide (n.l.length=0)
  else if n.op=qj∨n.op=zS then decide (n.n=0)&&decide (n.l.length=1)&&yS (n.l.getD 0 (.mk [] [] 0 0 []))
  else if n.op=zr then decide (n.n=0)&&decide (n.l.length=1)&&qg 12 (n.l.getD 0 (.mk [] [] 0 0 []))
  else if n.op=zH then(decide (n.n=0)||decide (n.n=1))&&decide (n.l.length=0)
  else false)
def xm(n:Nd):Bool:=n.l.all vS&&n.op==ZM&&n.s== []&&decide (n.n=0)
theorem xz(n:Nd)(A:Option Addr)(L C:Nat)(w:World):Calls Tryz.prog 58 #[.agg (qa n (.slice A L C))] w λe w'=>e= .returned (.bool (yE n.n))∧Below w.heap.size w w':=by
 unfold yE qa;generalize n.n=N;by_cases h1:0≤N
 ·by_cases h2:N≤999999999
  all_goals
   go_enter Tryz.func58,Tryz.ntmps58
   go_wp2
   go_ret
   exact⟨qb (by simp[h1,h2]),zh _ _⟩
 ·go_enter Tryz.func58,Tryz.ntmps58
  go_wp2
  go_ret
  refine⟨qb ?_,zh _ _⟩;rw[Bool.eq_iff_iff];simp;omega
theorem gN{w w1 w2:World}{o o':Obj}(h:Below (w.alloc o).heap.size (w.alloc o) w1)(h2:Below (w1.alloc o').heap.size (w1.alloc o') w2):Below w.heap.size w w2:=by
 have s1:=h.size;have s2:=h2.size;simp at s1 s2;exact(((zh w o).trans (h.mono (by simp))).alloc (by omega) o').trans (h2.mono (by simp;omega))
theorem yk{w w1:World}{o o':Obj}(h:Below (w.alloc o).heap.size (w.alloc o) w1):Below w.heap.size w (w1.alloc o'):=by
 have s1:=h.size;simp at s1;exact((zh w o).trans (h.mono (by simp))).alloc (by omega) o'
theorem jG(n:Nd)(A:Option Addr)(L C:Nat)(w:World)(hm:n.s.length≤maxLen):Calls Tryz.prog 57 #[.agg (qa n (.slice A L C))] w λe w'=>e= .returned (.bool (yb n.s))∧Below w.heap.size w w':=by
 have htk:=λW=>ka n.s W hm
 unfold yb qa;have hs:=zp n.s;cases hT:Zo n.s with
 |none =>
  rw[hT]at htk;simp only[vC]at htk;clear hT;go_enter Tryz.func57,Tryz.ntmps57
  go_wp2_with (go_at_call 75;refine(htk _).mono ?_;rintro e w1 ⟨rfl,hb1⟩)
  go_ret
  exact⟨rfl,yk hb1⟩
 |some t =>
  rw[hT]at htk;simp only[vC,jy]at htk;have hnm:=Dx t.1 t.2;have hs2:=zp t.1.s;simp only;generalize j3 t.1=B at hnm ⊢;unfold jy at hnm;clear hT;cases B
  all_goals
   go_enter Tryz.func57,Tryz.ntmps57
   go_wp2_with (first
    |((go_at_call 75)
      refine(htk _).mono ?_;rintro e w1 ⟨rfl,hb1⟩;have hN1:=(zi.new w _ _).below hb1 (by simp);(have hlN:=hN1.lt))
    |((go_at_call 76)
      refine(hnm _).mono ?_;rintro e w2 ⟨rfl,hb2⟩;have hN2:=(hN1.alloc _).below hb2 (by simp;omega);have n1:=hN2.cell 1;have hT2:=(zi.new w1 _ _).below hb2 (by simp);(have t1:=hT2.cell 1)))
   go_ret
   exact⟨qb (by simp),gN hb1 hb2⟩
structure j0 (w:World) (n:Nd) (A:Option Addr) (C:Nat):Prop where
 rd:Rd w n.l (.slice A n.l.length C)
 s:n.s.length<maxLen
 op:n.op.length<maxLen
theorem j0.grow{w w':World}{n:Nd}{A:Option Addr}{C:Nat}(h:j0 w n A C)(hb:Below w.heap.size w w'):j0 w' n A C:=⟨h.rd.grow hb,h.s,h.op⟩
theorem j0.len{w:World}{n:Nd}{A:Option Addr}{C:Nat}(h:j0 w n A C):n.l.length≤C∧C≤9223372036854775807:=by
 obtain⟨A',C',e,h1,h2⟩:=h.rd.slice;cases e;exact⟨h1,h2⟩
abbrev QT(w:World)(b:Bool)(e:Ending)(w':World):Prop:=e= .returned (.bool b)∧Below w.heap.size w w'
theorem Gy(d N:Nat)(k:Kd)(n:Nd)(A:Option Addr)(C:Nat)(w:World)(h:j0 w n A C)(hN:N≤13)
 (hx:∀W,j0 W n A C→Calls Tryz.prog 60 #[.agg (qa n (.slice A n.l.length C)),.int .i64 (N:Nat)] W (QT W (qg d n))):
 Calls Tryz.prog 94 #[.agg (qa n (.slice A n.l.length C)),.string (bs k.w),.int .i64 (N:Nat)] w (QT w (j4 (qg d) k n)):=by
 have hlen:=h.len;have hnum:=λW=>xz n A n.l.length C W
 have hnam:=λW=>jG n A n.l.length C W (by have:=h.s;omega)
 have hs:=zp n.s;have ho:=zp n.op;have hx':=λW hW=>hx W (h.grow hW)
 cases k with
 |nu =>
  show Calls Tryz.prog 94 #[.agg (qa n (.slice A n.l.length C)),.string ⟨#[110,117,109]⟩,.int .i64 (N:Nat)] w _;simp only[j4];have hL:((n.l.length:Nat):Int)≤9223372036854775807:=by omega
  generalize n.l.length=L at *;unfold qa at *;generalize yE n.n=B at *;clear hx hx' h hnam
  cases e1:(n.op==vH)
  ·have e1':(n.op== [110,117,109])=false:=e1
   go_enter Tryz.func94,Tryz.ntmps94
   go_wp2
   go_ret
   exact⟨rfl,zh _ _⟩
  ·have e1':(n.op== [110,117,109])=true:=e1
   cases e2:(n.s== [])
   ·go_enter Tryz.func94,Tryz.ntmps94
    go_wp2
    go_ret
    exact⟨rfl,zh _ _⟩
   ·by_cases hL0:L=0
    ·subst hL0
     cases B
     all_goals
      go_enter Tryz.func94,Tryz.ntmps94
      go_wp2_with (go_at_call 58;refine(hnum _).mono ?_;rintro e w1 ⟨rfl,hb1⟩;have hN1:=(zi.new w _ _).below hb1 (by simp);have n4:=hN1.cell 4)
      go_ret
      exact⟨rfl,(zh w _).trans (hb1.mono (by simp))⟩
    ·have hL0':¬(L:Int)=0:=by omega
     cases B
     all_goals
      go_enter Tryz.func94,Tryz.ntmps94
      go_wp2_with (go_at_call 58;refine(hnum _).mono ?_;rintro e w1 ⟨rfl,hb1⟩;have hN1:=(zi.new w _ _).below hb1 (by simp);have n4:=hN1.cell 4)
      go_ret
      exact⟨by simp[hL0],(zh w _).trans (hb1.mono (by simp))⟩
 |na =>
  show Calls Tryz.prog 94 #[.agg (qa n (.slice A n.l.length C)),.string ⟨#[110,97,109,101]⟩,.int .i64 (N:Nat)] w _;simp only[j4];have hL:((n.l.length:Nat):Int)≤9223372036854775807:=by omega
  generalize n.l.length=L at *;unfold qa at *;generalize yb n.s=B at *;clear hx hx' h hnum
  cases e1:(n.op==jN)
  ·have e1':(n.op== [110,97,109,101])=false:=e1
   go_enter Tryz.func94,Tryz.ntmps94
   go_wp2
   go_ret
   exact⟨rfl,zh _ _⟩
  ·have e1':(n.op== [110,97,109,101])=true:=e1
   cases B
   ·go_enter Tryz.func94,Tryz.ntmps94
    go_wp2_with (go_at_call 57;refine(hnam _).mono ?_;rintro e w1 ⟨rfl,hb1⟩)
    go_ret
    exact⟨rfl,(zh w _).trans (hb1.mono (by simp))⟩
   ·generalize n.n=M at *
    by_cases hM:M=0
    ·subst hM
     by_cases hL0:L=0
     ·subst hL0
      go_enter Tryz.func94,Tryz.ntmps94
      go_wp2_with (go_at_call 57;refine(hnam _).mono ?_;rintro e w1 ⟨rfl,hb1⟩;have hN1:=(zi.new w _ _).below hb1 (by simp);have n2:=hN1.cell 2;have n4:=hN1.cell 4)
      go_ret
      exact⟨rfl,(zh w _).trans (hb1.mono (by simp))⟩
     ·have hL0':¬(L:Int)=0:=by omega
      go_enter Tryz.func94,Tryz.ntmps94
      go_wp2_with (go_at_call 57;refine(hnam _).mono ?_;rintro e w1 ⟨rfl,hb1⟩;have hN1:=(zi.new w _ _).below hb1 (by simp);have n2:=hN1.cell 2;have n4:=hN1.cell 4)
      go_ret
      exact⟨by simp[hL0],(zh w _).trans (hb1.mono (by simp))⟩
    ·go_enter Tryz.func94,Tryz.ntmps94
     go_wp2_with (go_at_call 57;refine(hnam _).mono ?_;rintro e w1 ⟨rfl,hb1⟩;have hN1:=(zi.new w _ _).below hb1 (by simp);have n2:=hN1.cell 2)
     go_ret
     exact⟨by simp[hM],(zh w _).trans (hb1.mono (by simp))⟩
 |ex =>
  show Calls Tryz.prog 94 #[.agg (qa n (.slice A n.l.length C)),.string ⟨#[101,120,112,114]⟩,.int .i64 (N:Nat)] w _;simp only[j4];generalize qg d n=B at *;unfold qa at *;clear hnum hnam hx;go_enter Tryz.func94,Tryz.ntmps94
  go_wp2_with (go_at_call 60;refine(hx' _ (zh _ _)).mono ?_;rintro e w1 ⟨rfl,hb1⟩)
  go_ret
  exact⟨rfl,(zh w _).trans (hb1.mono (by simp))⟩
theorem Xt(d N:Nat)(n:Nd)(A:Option Addr)(C:Nat)(w:World)(h:j0 w n A C)(hN:N≤12)
 (hx:∀W,j0 W n A C→Calls Tryz.prog 77 #[.agg (qa n (.slice A n.l.length C)),.int .i64 (N:Nat)] W (QT W (jV (qg d) n))):
 Calls Tryz.prog 60 #[.agg (qa n (.slice A n.l.length C)),.int .i64 (N:Nat)] w (QT w (qg (d+1) n)):=by
 have hlen:=h.len;have hnam:=λW=>jG n A n.l.length C W (by have:=h.s;omega)
 have hs:=zp n.s;have ho:=zp n.op;have hx':=λW hW=>hx W (h.grow hW)
 have hN':¬(12:Int)<(N:Int):=by omega
 simp only[qg];have hL:((n.l.length:Nat):Int)≤9223372036854775807:=by omega
 generalize jV (qg d) n=B at *;generalize n.l.length=L at *;unfold qa at *;generalize n.n=M at *;clear hx h;by_cases hM:M=0
 ·subst hM
  by_cases hu:n.op=ye
  ·have e1':(n.op== [117,115,101])=true:=by rw[hu];rfl
   rw[if_pos hu];generalize yb n.s=D at *;clear hx' hu;cases D
   ·go_enter Tryz.func60,Tryz.ntmps60
    go_wp2_with (go_at_call 57;refine(hnam _).mono ?_;rintro e w1 ⟨rfl,hb1⟩)
    go_ret
    exact⟨rfl,(zh w _).trans (hb1.mono (by simp))⟩
   ·by_cases hL0:L=0
    ·subst hL0
     go_enter Tryz.func60,Tryz.ntmps60
     go_wp2_with (go_at_call 57;refine(hnam _).mono ?_;rintro e w1 ⟨rfl,hb1⟩;have hN1:=(zi.new w _ _).below hb1 (by simp);have n4:=hN1.cell 4)
     go_ret
     exact⟨rfl,(zh w _).trans (hb1.mono (by simp))⟩
    ·have hL0':¬(L:Int)=0:=by omega
     go_enter Tryz.func60,Tryz.ntmps60
     go_wp2_with (go_at_call 57;refine(hnam _).mono ?_;rintro e w1 ⟨rfl,hb1⟩;have hN1:=(zi.new w _ _).below hb1 (by simp);have n4:=hN1.cell 4)
     go_ret
     exact⟨by simp[hL0],(zh w _).trans (hb1.mono (by simp))⟩
  ·have e1':(n.op== [117,115,101])=false:=by rw[beq_eq_false_iff_ne];exact hu
   rw[if_neg hu];clear hnam hu
   cases e2:(n.s== [])
   ·go_enter Tryz.func60,Tryz.ntmps60
    go_wp2
    go_ret
    exact⟨rfl,zh _ _⟩
   ·go_enter Tryz.func60,Tryz.ntmps60
    go_wp2_with (go_at_call 77;refine(hx' _ (zh _ _)).mono ?_;rintro e w1 ⟨rfl,hb1⟩)
    go_ret
    exact⟨rfl,(zh w _).trans (hb1.mono (by simp))⟩
 ·clear hnam hx'
  go_enter Tryz.func60,Tryz.ntmps60
  go_wp2
  go_ret
  exact⟨by simp,zh _ _⟩
theorem YO(n:Nd)(A:Option Addr)(C:Nat)(w:World):
 Calls Tryz.prog 60 #[.agg (qa n (.slice A n.l.length C)),.int .i64 13] w (QT w (qg 0 n)):=by
 simp only[qg];unfold qa;go_enter Tryz.func60,Tryz.ntmps60
 go_wp2
 go_ret
 exact⟨rfl,zh _ _⟩
theorem kg{P:Program}{ops:Array Oper}{Q:Exit→Act→World→Prop}{md:Region.Mode}{S:World→Prop}{oi:Oper}(m:Nat)(d:Option Tmp)(v:Value){n:Nat}{listed:Array Bool}{a:Act}{w:World}(hr:Region.ready md ops listed= [m])
 (hi:ops[m]?=some oi) (hd:oi.dst=d) (hw:Region.wanted oi (yielded ops a.tmps)=true)
 (hrun:(execOp a.eval oi).run P w= .ok (.value v) w) (he:Region.ready md ops (listed.setIfInBounds m true)= [])
 (h:Q .normal (a.put d v) w):j2 P md ops Q S m (n+1) listed a w:=by
 subst hd;refine⟨λh0=>absurd (hr ▸ h0) (by simp),λj hj=>?_⟩;obtain rfl:j=m:=by rw[hr]at hj;simpa using hj
 refine wpOp_step hi (λK hK=>?_);rw[if_pos hw];unfold Oper.wp;rw[hrun];refine hK _ _ ⟨λh=>absurd rfl h,?_⟩;cases n with
 |zero=>exact⟨he,h⟩
 |succ n=>exact⟨λ_=>h,by rw[he];simp⟩
theorem JE{o:Oper}{a:Act}(x:Operand)(ho:o.op= .load 24 x)(g:Nat)(hx:a.eval x= .pointer (some ⟨g,0,none⟩)){x0 x1 x2 x3 x4:Value}(w:World)(h:zi w g 24 #[x0,x1,x2,x3,x4]):(execOp a.eval o).run Tryz.prog w= .ok (.value (.agg #[x0,x1,x2,x3,x4])) w:=by
 have q0:=h.cell 0;have q1:=h.cell 1;have q2:=h.cell 2;have q3:=h.cell 3;have q4:=h.cell 4;unfold execOp;simp only[ho,hx];go_simp
theorem JN{x:Int}(h0: -9223372036854775808≤x)(h1:x≤9223372036854775807):IntKind.i64.wrap x=x:=by
 simp[IntKind.wrap,IntKind.signed,IntKind.bits];omega
theorem Yv{o:Oper}{a:Act}(x:Operand)(ho:o.op= .binOp .sub 3 x (.const (.int .i64 1)) 3)(K:Nat)(hK:1≤K)(hK3:K≤3)(hx:a.eval x= .int .i64 (K:Nat))(w:World):(execOp a.eval o).run Tryz.prog w= .ok (.value (.int .i64 ((K-1:Nat):Int))) w:=by
 have e:((K-1:Nat):Int)=(K:Int)-1:=by omega
 have h1:(1:Int)≤(K:Int):=by omega
 have h3:(K:Int)≤3:=by omega
 rw[e];unfold execOp;simp only[ho,hx];go_simp;exact JN (by omega) (by omega)
theorem Xi{o:Oper}{a:Act}(x:Operand)(ho:o.op= .binOp .add 3 x (.const (.int .i64 1)) 3)(N:Nat)(hN:N≤12)(hx:a.eval x= .int .i64 (N:Nat))(w:World):(execOp a.eval o).run Tryz.prog w= .ok (.value (.int .i64 ((N+1:Nat):Int))) w:=by
 have e:((N+1:Nat):Int)=(N:Int)+1:=by omega
 have h3:(N:Int)≤12:=by omega
 have h0:(0:Int)≤(N:Int):=by omega
 rw[e];unfold execOp;simp only[ho,hx];go_simp;exact JN (by omega) (by omega)
theorem Gf{o:Oper}{a:Act}(x y:Operand)(ho:o.op= .call { callee:= .builtin .min,args:=#[x,y],argTypes:=#[3,3] })(n m:Nat)(hx:a.eval x= .int .i64 (n:Nat))(hy:a.eval y= .int .i64 (m:Nat))(w:World):(execOp a.eval o).run Tryz.prog w= .ok (.value (.int .i64 ((min n m:Nat):Int))) w:=by
 unfold execOp;simp only[ho,resolve,invoke,builtin,List.map_toArray,List.map_cons,List.map_nil,hx,hy];by_cases h:n<m
 ·have e:min n m=n:=by omega
  have h':(n:Int)<(m:Int):=by omega
  rw[e];go_simp;omega
 ·have e:min n m=m:=by omega
  have h':¬(n:Int)<(m:Int):=by omega
  rw[e];go_simp;omega
theorem Y2{re:Nd→Bool}{n:Nd}(h:KL (zQ n.op).1 (zQ n.op).2 n.l.length=false):jV re n=false:=by
 unfold jV;rw[h];rfl
theorem za{w w':World}{p:Addr}{v:Value}(h:Below w.heap.size w w')(hc:w.cell? p=some v):w'.cell? p=some v:=(h.cell (World.block_lt_of_cell? w p hc)).trans hc
theorem GY{ks:List Kd}{i:Nat}(h:0<ks.length):∃hk:min i (ks.length-1)<ks.length,ks[min i (ks.length-1)]=JD ks i:=by
 have hk:min i (ks.length-1)<ks.length:=by omega
 exact⟨hk,by unfold JD;rw[List.getD_eq_getElem?_getD,List.getElem?_eq_getElem hk];rfl⟩
theorem Je(p:Nat→Bool)(i:Nat):(List.range (i+1)).all p=((List.range i).all p&&p i):=by
 rw[List.range_succ,List.all_append];simp
theorem Xz(d N:Nat)(n:Nd)(A:Option Addr)(C:Nat)(w:World)(h:j0 w n A C)(hN:N≤12)
 (hx:∀m A' C' W,j0 W m A' C'→Calls Tryz.prog 60 #[.agg (qa m (.slice A' m.l.length C')),.int .i64 ((N+1:Nat):Int)] W (QT W (qg d m))):
 Calls Tryz.prog 77 #[.agg (qa n (.slice A n.l.length C)),.int .i64 (N:Nat)] w (QT w (jV (qg d) n)):=by
 have hlen:=h.len;have ho:=zp n.op;have hin:=uc n.op;have hpt:=λk m A' C' W (hr:j0 W m A' C')=>Gy d (N+1) k m A' C' W hr (by omega) (λW hW=>hx m A' C' W hW)
 have hpsh:=Y2 (re:=qg d) (n:=n)
 obtain⟨K,hK⟩:∃K,K=(zQ n.op).1.length:=⟨_,rfl⟩
 have hK3:K≤3:=by rw[hK];exact Jc n.op
 have HK:Hid (K=(zQ n.op).1.length):=hK;generalize hB:(zQ n.op).2=B at hin hpsh;have HB:Hid ((zQ n.op).2=B):=hB
 obtain⟨L,hL⟩:∃L,L=n.l.length:=⟨_,rfl⟩
 have HL:Hid (L=n.l.length):=hL;have hL2:L≤9223372036854775807:=by omega
 have HF:Hid (KL (zQ n.op).1 B L=(!(decide (K=0))&& !(decide (L<K))&& !(decide (K<L)&& !B))):=by show _=_;unfold KL;rw[←hK]
 have hfe:KL (zQ n.op).1 B L=false→jV (qg d) n=false:=by rw[hL];exact hpsh
 rw[←hL];clear hpsh hx hK hB hL;cases hft:KL (zQ n.op).1 B L with
 |false =>
  rw[hfe hft]
  have hcs:K=0∨(K≠0∧L<K)∨(K≠0∧K<L∧B=false):=by
   rw[HF.out]at hft;by_cases a1:K=0
   ·exact .inl a1
   ·by_cases a2:L<K
    ·exact .inr (.inl ⟨a1,a2⟩)
    ·refine .inr (.inr ⟨a1,?_⟩)
     simp[a1]at hft;have a3:=hft (by omega);exact⟨a3.1,a3.2⟩
  clear hfe hft HF hpt h;unfold qa;rcases hcs with a1|⟨a1,a2⟩|⟨a1,a2,rfl⟩
  ·have b1:((K:Nat):Int)=0:=by omega
   go_enter Tryz.func77,Tryz.ntmps77
   go_wp2_with (first
    |((go_at_call 93)
      refine(hin _).mono ?_;rintro e w1 ⟨v,rfl,hb1,hs1⟩;(obtain⟨A8,L8,C8,rfl⟩:∃A L C,v= .slice A L C:=by(rcases hs1 with⟨_,rfl⟩|⟨g,rfl,_⟩<;>exact⟨_,_,_,rfl⟩));obtain⟨e8,l8,c8,g8⟩:=hs1.get;rw[←HK.out]at e8;have e8':=e8.symm;subst e8';have hN1:=(zi.new w _ _).below hb1 (by simp);(have n4:=hN1.cell 4)))
   go_ret
   exact⟨rfl,(zh w _).trans (hb1.mono (by simp))⟩
  ·have b1:¬((K:Nat):Int)=0:=by omega
   have b2:((L:Nat):Int)<((K:Nat):Int):=by omega
   go_enter Tryz.func77,Tryz.ntmps77
   go_wp2_with (first
    |((go_at_call 93)
      refine(hin _).mono ?_;rintro e w1 ⟨v,rfl,hb1,hs1⟩;(obtain⟨A8,L8,C8,rfl⟩:∃A L C,v= .slice A L C:=by(rcases hs1 with⟨_,rfl⟩|⟨g,rfl,_⟩<;>exact⟨_,_,_,rfl⟩));obtain⟨e8,l8,c8,g8⟩:=hs1.get;rw[←HK.out]at e8;have e8':=e8.symm;subst e8';have hN1:=(zi.new w _ _).below hb1 (by simp);(have n4:=hN1.cell 4)))
   go_ret
   exact⟨rfl,(zh w _).trans (hb1.mono (by simp))⟩
  ·have b1:¬((K:Nat):Int)=0:=by omega
   have b2:¬((L:Nat):Int)<((K:Nat):Int):=by omega
   have b3:((K:Nat):Int)<((L:Nat):Int):=by omega
   go_enter Tryz.func77,Tryz.ntmps77
   go_wp2_with (first
    |((go_at_call 93)
      refine(hin _).mono ?_;rintro e w1 ⟨v,rfl,hb1,hs1⟩;(obtain⟨A8,L8,C8,rfl⟩:∃A L C,v= .slice A L C:=by(rcases hs1 with⟨_,rfl⟩|⟨g,rfl,_⟩<;>exact⟨_,_,_,rfl⟩));obtain⟨e8,l8,c8,g8⟩:=hs1.get;rw[←HK.out]at e8;have e8':=e8.symm;subst e8';have hN1:=(zi.new w _ _).below hb1 (by simp);(have n4:=hN1.cell 4)))
   go_ret
   exact⟨rfl,(zh w _).trans (hb1.mono (by simp))⟩
 |true =>
  have hcs:K≠0∧¬L<K∧(K<L→B=true):=by
   rw[HF.out]at hft;simp only[Bool.and_eq_true,Bool.not_eq_true',decide_eq_false_iff_not,Bool.and_eq_false_iff,Bool.not_eq_false']at hft;refine⟨hft.1.1,hft.1.2,λhlt=>?_⟩;rcases hft.2 with h|h
   ·exact absurd hlt h
   ·exact h
  have hP:jV (qg d) n=(List.range L).all λi=>j4 (qg d) (JD (zQ n.op).1 i) (n.l.getD i (.mk [] [] 0 0 [])):=by
   unfold jV;rw[HB.out,←HL.out,hft,Bool.true_and]
  rw[hP];obtain⟨b1,b2,b3⟩:=hcs;have b1':¬((K:Nat):Int)=0:=by omega
  have b2':¬((L:Nat):Int)<((K:Nat):Int):=by omega
  have hb3:(((K:Nat):Int)<((L:Nat):Int)∧B=true)∨¬((K:Nat):Int)<((L:Nat):Int):=by
   by_cases hlt:K<L
   ·exact .inl ⟨by omega,b3 hlt⟩
   ·exact .inr (by omega)
  clear hfe hft HF hP b3;generalize hp:(λi=>j4 (qg d) (JD (zQ n.op).1 i) (n.l.getD i (.mk [] [] 0 0 [])))=p;have HP:Hid (∀i,p i=j4 (qg d) (JD (zQ n.op).1 i) (n.l.getD i (.mk [] [] 0 0 []))):=λi=>by rw[←hp]
  clear hp;have hrd:=h;rw[show(qa n (.slice A L C))= #[.string (bs n.op),.string (bs n.s),.int .i64 n.n,.int .i64 n.a,.slice A L C]from rfl];rcases hb3 with⟨b3,rfl⟩|b3
  all_goals
   go_enter Tryz.func77,Tryz.ntmps77
   go_wp2_with (first
    |((go_at_call 93)
      refine(hin _).mono ?_;rintro e w1 ⟨v,rfl,hb1,hs1⟩;(obtain⟨A8,L8,C8,rfl⟩:∃A L C,v= .slice A L C:=by(rcases hs1 with⟨_,rfl⟩|⟨g,rfl,_⟩<;>exact⟨_,_,_,rfl⟩));obtain⟨e8,l8,c8,g8⟩:=hs1.get;rw[←HK.out]at e8;have e8':=e8.symm;subst e8';have hN1:=(zi.new w _ _).below hb1 (by simp);have n4:=hN1.cell 4;(have hbw:Below w.heap.size w w1:=(zh w _).trans (hb1.mono (by simp)))))
   have hA0:(List.range 0).all p=true:=rfl;obtain⟨gk,rfl,-⟩:=g8 0 (by rw[←HK.out];omega);clear g8 n4 hN1
   go_loopw [41] (λz wz=>∃i:Nat,i≤L∧z= .int .i64 (i:Nat)∧Below w1.heap.size w1 wz∧(List.range i).all p=true) (λz _=>L-(intOf z).toNat)
   case atStart=>exact⟨0,Nat.zero_le _,rfl,Below.refl _ _,hA0⟩
   case round =>
    clear hA0;obtain⟨i,hi,rfl,hbz,hall⟩:=hrel;have HA:Hid ((List.range i).all p=true):=hall;clear hall;by_cases hiL:i<L
    ·have hiL2:(i:Int)<(L:Int):=by omega
     have hiL':i<n.l.length:=by rw[←HL.out];exact hiL
     have hbwr:Below w.heap.size w wr:=hbw.trans (hbz.mono hbw.size);have hR:=(hrd.grow hbwr).rd;rw[←HL.out]at hR;obtain⟨g,off,u,rfl,hg,hc,hru,hsu,hou⟩:=hR.get i hiL'
     obtain⟨m,hm⟩:∃m,m=n.l[i]:=⟨_,rfl⟩
     rw[←hm]at hc hru hsu hou;obtain⟨Au,Cu,rfl,-,-⟩:=hru.slice;have d0:=hc 0 (by decide);have d1:=hc 1 (by decide);have d2:=hc 2 (by decide);have d3:=hc 3 (by decide);have d4:=hc 4 (by decide);simp only[Nat.add_zero]at d0;simp only[qa]at d0 d1 d2 d3 d4;obtain⟨hk,hkg⟩:=GY (ks:=(zQ n.op).1) (i:=i) (by rw[←HK.out];omega)
     obtain⟨k,hkk⟩:∃k,k=JD (zQ n.op).1 i:=⟨_,rfl⟩
     have hsw:=hs1.below hbz;obtain⟨gk',ek,hck⟩:=hsw.get.2.2.2 _ hk;cases ek;rw[hkg,←hkk,←HK.out]at hck;have hp1:p i=j4 (qg d) k m:=by rw[HP.out i,←hkk,hm,List.getD_eq_getElem?_getD,List.getElem?_eq_getElem hiL'];rfl
     have HP1:Hid (p i=j4 (qg d) k m):=hp1;have hpm:=λW hW=>hpt k m Au Cu W (j0.grow (w:=wr) ⟨hru,hsu,hou⟩ hW)
     generalize j4 (qg d) k m=V at hpm HP1;clear hp1 hkg hkk hm hc hR hpt hin hsw hk
     go_wp2
     obtain⟨W0,hW0⟩:∃W,W=wr.alloc (.cells #[.string (bs m.op),.string (bs m.s),.int .i64 m.n,.int .i64 m.a,.slice Au m.l.length Cu] 24):=⟨_,rfl⟩
     have hbW0:Below wr.heap.size wr W0:=by rw[hW0];exact zh _ _
     have hH0:zi W0 wr.heap.size 24 #[.string (bs m.op),.string (bs m.s),.int .i64 m.n,.int .i64 m.a,.slice Au m.l.length Cu]:=by rw[hW0];exact zi.new _ _ _
     have hck0:W0.cell? ⟨gk,min i (K-1),none⟩=some (.string (bs k.w)):=za hbW0 hck;rw[←hW0];clear hW0;refine vD (S:=λW=>zi W wr.heap.size 24 #[.string (bs m.op),.string (bs m.s),.int .i64 m.n,.int .i64 m.a,.slice Au m.l.length Cu]∧W.cell? ⟨gk,min i (K-1),none⟩=some (.string (bs k.w))) 12 (by kernel_rfl) ⟨hH0,hck0⟩ (λhHeld=>?_);refine xq 0 [11] (some 46) (.agg #[.string (bs m.op),.string (bs m.s),.int .i64 m.n,.int .i64 m.a,.slice Au m.l.length Cu]) rfl rfl (by decide) (by kernel_rfl) (by kernel_rfl) (by kernel_rfl) (by kernel_rfl) (by kernel_rfl) (λ_ _ _ h=>h) (by rfl) (λwz hz=>JE _ rfl _ rfl _ hz.1) hHeld ?_;simp only[Act.put,ze,zg,zf];refine xq 1 [7,8,11] (some 47) (.slice (some ⟨gk,0,none⟩) K C8) rfl rfl (by decide) (by kernel_rfl) (by kernel_rfl) (by kernel_rfl) (by kernel_rfl) (by kernel_rfl) (λ_ _ _ h=>h) (by rfl) (λ_ _=>rfl) hHeld ?_;simp only[Act.put,ze,zg,zf];refine xq 2 [6,7,8,11] (some 48) (.int .i64 (i:Nat)) rfl rfl (by decide) (by kernel_rfl) (by kernel_rfl) (by kernel_rfl) (by kernel_rfl) (by kernel_rfl) (λ_ _ _ h=>h) (by rfl) (λ_ _=>rfl) hHeld ?_;simp only[Act.put,ze,zg,zf];refine xq 3 [4,5,6,7,8,11] (some 49) (.slice (some ⟨gk,0,none⟩) K C8) rfl rfl (by decide) (by kernel_rfl) (by kernel_rfl) (by kernel_rfl) (by kernel_rfl) (by kernel_rfl) (λ_ _ _ h=>h) (by rfl) (λ_ _=>rfl) hHeld ?_;simp only[Act.put,ze,zg,zf];refine xq 4 [5,6,7,8,11] (some 50) (.int .i64 (K:Nat)) rfl rfl (by decide) (by kernel_rfl) (by kernel_rfl) (by kernel_rfl) (by kernel_rfl) (by kernel_rfl) (λ_ _ _ h=>h) (by rfl) (λwz _=>Ze 83 9 Tryz.underlying83 _ rfl _ _ _ rfl wz) hHeld ?_;simp only[Act.put,ze,zg,zf];refine xq 5 [6,7,8,11] (some 51) (.int .i64 ((K-1:Nat):Int)) rfl rfl (by decide) (by kernel_rfl) (by kernel_rfl) (by kernel_rfl) (by kernel_rfl) (by kernel_rfl) (λ_ _ _ h=>h) (by rfl) (λwz _=>Yv _ rfl K (by omega) hK3 rfl wz) hHeld ?_;simp only[Act.put,ze,zg,zf];refine xq 6 [7,8,11] (some 52) (.int .i64 ((min i (K-1):Nat):Int)) rfl rfl (by decide) (by kernel_rfl) (by kernel_rfl) (by kernel_rfl) (by kernel_rfl) (by kernel_rfl) (λ_ _ _ h=>h) (by rfl) (λwz _=>Gf _ _ rfl i (K-1) rfl rfl wz) hHeld ?_;simp only[Act.put,ze,zg,zf];refine xq 7 [8,11] (some 53) (.pointer (some ⟨gk,0+min i (K-1),none⟩)) rfl rfl (by decide) (by kernel_rfl) (by kernel_rfl) (by kernel_rfl) (by kernel_rfl) (by kernel_rfl) (λ_ _ _ h=>h) (by rfl) (λwz _=>y8 83 _ _ rfl gk 0 (min i (K-1)) K C8 9 rfl rfl Tryz.underlying83 (by kernel_rfl) (by omega) wz) hHeld ?_;simp only[Act.put,ze,zg,zf];refine xq 8 [11] (some 54) (.string (bs k.w)) rfl rfl (by decide) (by kernel_rfl) (by kernel_rfl) (by kernel_rfl) (by kernel_rfl) (by kernel_rfl) (λ_ _ _ h=>h) (by rfl) (λwz hz=>VI _ _ rfl (.inl rfl) _ rfl _ _ (by rw[Nat.zero_add];exact hz.2)) hHeld ?_;simp only[Act.put,ze,zg,zf];refine xq 9 [10,11] (some 55) (.int .i64 (N:Nat)) rfl rfl (by decide) (by kernel_rfl) (by kernel_rfl) (by kernel_rfl) (by kernel_rfl) (by kernel_rfl) (λ_ _ _ h=>h) (by rfl) (λ_ _=>rfl) hHeld ?_;simp only[Act.put,ze,zg,zf];refine xq 10 [11] (some 56) (.int .i64 ((N+1:Nat):Int)) rfl rfl (by decide) (by kernel_rfl) (by kernel_rfl) (by kernel_rfl) (by kernel_rfl) (by kernel_rfl) (λ_ _ _ h=>h) (by rfl) (λwz _=>Xi _ rfl N hN rfl wz) hHeld ?_;simp only[Act.put,ze,zg,zf];refine F5 11 (some 57) 94 #[.agg #[.string (bs m.op),.string (bs m.s),.int .i64 m.n,.int .i64 m.a,.slice Au m.l.length Cu],.string (bs k.w),.int .i64 ((N+1:Nat):Int)] (by kernel_rfl) rfl rfl (by rfl) (by kernel_rfl) (hpm W0.drew (zm hbW0)) ?_;rintro e w4 ⟨rfl,hb4⟩
     have hb4':Below W0.heap.size W0 w4:=⟨hb4.os,hb4.tape,hb4.output,hb4.size,hb4.block⟩
     refine⟨_,rfl,⟨hH0.below hb4' hH0.lt,za hb4' hck0⟩,?_⟩;simp only[Act.put,ze,zg,zf];have hbN:Below w1.heap.size w1 w4:=(hbz.trans (hbW0.mono hbz.size)).trans (hb4'.mono (by have:=hbz.size;have:=hbW0.size;omega));clear hck0 hck hH0;cases V with
     |true =>
      refine kg 12 (some 58) (.bool false) (by kernel_rfl) rfl rfl (by rfl) (by kernel_rfl) (by kernel_rfl) ?_;simp only[Act.put,ze,zg,zf]
      go_wp2
      go_roundw
      case rel=>exact⟨i+1,by omega,by go_num,hbN,by rw[Je,HA.out,HP1.out];rfl⟩
      case measure=>simp[intOf];omega
     |false =>
      refine kg 12 (some 58) (.bool true) (by kernel_rfl) rfl rfl (by rfl) (by kernel_rfl) (by kernel_rfl) ?_;simp only[Act.put,ze,zg,zf]
      go_wp2
      go_ret
      refine⟨qb ?_,hbw.trans (hbN.mono hbw.size)⟩
      symm
      rw[List.all_eq_false];exact⟨i,List.mem_range.2 hiL,by rw[HP1.out];decide⟩
    ·have hiL2:i=L:=by omega
     subst hiL2
     go_wp2
     go_ret
     exact⟨qb HA.out.symm,hbw.trans (hbz.mono hbw.size)⟩
theorem ui(d:Nat):∀(N:Nat) (n:Nd) (A:Option Addr) (C:Nat) (w:World),N+d=13→j0 w n A C→Calls Tryz.prog 60 #[.agg (qa n (.slice A n.l.length C)),.int .i64 (N:Nat)] w (QT w (qg d n)):=by
 induction d with
 |zero =>
  intro N n A C w hN h;have :N=13:=by omega
  subst this;exact YO n A C w
 |succ d ih =>
  intro N n A C w hN h;exact Xt d N n A C w h (by omega) (λW hW=>Xz d N n A C W hW (by omega) (λm A' C' W' h'=>ih (N+1) m A' C' W' (by omega) h'))
theorem kc(n:Nd)(A:Option Addr)(L C:Nat)(w:World)(hm:n.s.length<maxLen)(hlL:L=n.l.length)(hL:L≤9223372036854775807):Calls Tryz.prog 59 #[.agg (qa n (.slice A L C))] w (QT w (yS n)):=by
 have htk:∀W,Calls Tryz.prog 75 #[.string (⟨#[36]⟩++bs n.s)] W λe w'=>e= .returned (vC (Zo (36::n.s)))∧Below W.heap.size W w':=by
  intro W;have e:(⟨#[36]⟩:ByteArray)++bs n.s=bs (36::n.s):=by rw[show(⟨#[36]⟩:ByteArray)=bs [36]from rfl,Gg];rfl
  rw[e];exact ka (36::n.s) W (by simp only[List.length_cons];omega)
 have hsz:=zs n.s;have hsz2:((bs n.s).size:Int)<9223372036854775807:=by unfold maxLen at hm;omega
 unfold yS KU;rw[←hlL];unfold qa;have hs:=zp n.s;have ho:=zp n.op;generalize n.n=M at *;clear hlL
 cases e1:(n.op==Z3)
 ·have e1':(n.op== [104,101,120])=false:=e1
  generalize Zo (36::n.s)=O at *;cases O with
  |none =>
   simp only[vC]at htk;go_enter Tryz.func59,Tryz.ntmps59
   go_wp2_with (go_at_call 75;refine(htk _).mono ?_;rintro e w1 ⟨rfl,hb1⟩;have hN1:=(zi.new w _ _).below hb1 (by simp);have n0:=hN1.cell 0;have hlN:=hN1.lt)
   go_ret
   exact⟨rfl,yk hb1⟩
  |some t =>
   simp only[vC,jy]at htk;go_enter Tryz.func59,Tryz.ntmps59
   go_wp2_with (go_at_call 75;refine(htk _).mono ?_;rintro e w1 ⟨rfl,hb1⟩;have hN1:=(zi.new w _ _).below hb1 (by simp);have n0:=hN1.cell 0;have hlN:=hN1.lt)
   go_ret
   exact⟨rfl,yk hb1⟩
 ·have e1':(n.op== [104,101,120])=true:=e1
  cases hO:Zo (36::n.s)with
  |none =>
   rw[hO]at htk;simp only[vC]at htk;clear hO;go_enter Tryz.func59,Tryz.ntmps59
   go_wp2_with (go_at_call 75;refine(htk _).mono ?_;rintro e w1 ⟨rfl,hb1⟩;have hN1:=(zi.new w _ _).below hb1 (by simp);have n0:=hN1.cell 0;have hlN:=hN1.lt)
   go_ret
   exact⟨rfl,yk hb1⟩
  |some t =>
   rw[hO]at htk;simp only[vC,jy]at htk;obtain⟨⟨K,S,V⟩,q⟩:=t;simp only at htk ⊢;have hs2:=zp S;clear hO;by_cases h2:K=2
   ·subst h2
    have htk':∀W,Calls Tryz.prog 75 #[.string (⟨#[36]⟩++bs n.s)] W λe w'=>e= .returned (.tuple #[.agg #[.int .i64 2,.string (bs S),.int .i64 (V:Nat),.int .i64 (q:Nat)],.bool true])∧Below W.heap.size W w':=htk
    clear htk
    cases e3:(S==n.s)
    ·go_enter Tryz.func59,Tryz.ntmps59
     go_wp2_with (go_at_call 75;refine(htk' _).mono ?_;rintro e w1 ⟨rfl,hb1⟩;have hN1:=(zi.new w _ _).below hb1 (by simp);have n0:=hN1.cell 0;have n1:=hN1.cell 1;have hlN:=hN1.lt)
     go_ret
     exact⟨rfl,yk hb1⟩
    ·by_cases hM:M=0
     ·subst hM
      by_cases hL0:L=0
      ·subst hL0
       go_enter Tryz.func59,Tryz.ntmps59
       go_wp2_with (go_at_call 75;refine(htk' _).mono ?_;rintro e w1 ⟨rfl,hb1⟩;have hN1:=(zi.new w _ _).below hb1 (by simp);have n0:=hN1.cell 0;have n1:=hN1.cell 1;have n2:=hN1.cell 2;have n4:=hN1.cell 4;have hlN:=hN1.lt)
       go_ret
       exact⟨rfl,yk hb1⟩
      ·have hL0':¬(L:Int)=0:=by omega
       go_enter Tryz.func59,Tryz.ntmps59
       go_wp2_with (go_at_call 75;refine(htk' _).mono ?_;rintro e w1 ⟨rfl,hb1⟩;have hN1:=(zi.new w _ _).below hb1 (by simp);have n0:=hN1.cell 0;have n1:=hN1.cell 1;have n2:=hN1.cell 2;have n4:=hN1.cell 4;have hlN:=hN1.lt)
       go_ret
       exact⟨by simp[hL0],yk hb1⟩
     ·go_enter Tryz.func59,Tryz.ntmps59
      go_wp2_with (go_at_call 75;refine(htk' _).mono ?_;rintro e w1 ⟨rfl,hb1⟩;have hN1:=(zi.new w _ _).below hb1 (by simp);have n0:=hN1.cell 0;have n1:=hN1.cell 1;have n2:=hN1.cell 2;have hlN:=hN1.lt)
      go_ret
      exact⟨by simp[hM],yk hb1⟩
   ·have h2':¬((K:Nat):Int)=2:=by omega
    go_enter Tryz.func59,Tryz.ntmps59
    go_wp2_with (go_at_call 75;refine(htk _).mono ?_;rintro e w1 ⟨rfl,hb1⟩;have hN1:=(zi.new w _ _).below hb1 (by simp);have n0:=hN1.cell 0;have hlN:=hN1.lt)
    go_ret
    exact⟨by simp[h2],yk hb1⟩
def vz(n:Nd):Bool:=
 (if n.op=zd∨n.op=zj then yE n.n&&decide (n.l.length=0)
  else if n.op=qj∨n.op=zS then decide (n.n=0)&&decide (n.l.length=1)&&yS (n.l.getD 0 (.mk [] [] 0 0 []))
  else if n.op=zr then decide (n.n=0)&&decide (n.l.length=1)&&qg 12 (n.l.getD 0 (.mk [] [] 0 0 []))
  else if n.op=zH then(decide (n.n=0)||decide (n.n=1))&&decide (n.l.length=0)
  else false)
theorem kQ(n:Nd):vS n=(yb n.s&&vz n):=rfl
theorem VU(s:List UInt8)(M at_:Int)(l:List Nd)(A:Option Addr)(C:Nat)(w:World)(h:j0 w (.mk zd s M at_ l) A C)(hname:yb s=true):
 Calls Tryz.prog 34 #[.agg (qa (.mk zd s M at_ l) (.slice A l.length C))] w (QT w (vz (.mk zd s M at_ l))):=by
 have hlen:=h.len;have hnam:=λW=>jG (.mk zd s M at_ l) A l.length C W (by have:=h.s;omega)
 have hl2:((l.length:Nat):Int)≤9223372036854775807:=by have h1:=hlen.1;have h2:=hlen.2;simp only[Nd.l]at h1;omega
 simp only[Nd.s,hname]at hnam;have hnum:=λW=>xz (.mk zd s M at_ l) A l.length C W
 have hR:vz (.mk zd s M at_ l)=(yE M&&decide (l.length=0)):=if_pos (by first |exact .inl rfl|exact .inr rfl);rw[hR];unfold qa at hnum;simp only[Nd.op,Nd.s,Nd.n,Nd.a,Xa]at hnum;unfold qa at hnam ⊢;simp only[Nd.op,Nd.s,Nd.n,Nd.a,Xa]at hnam ⊢;clear h hlen hR;generalize yE M=B at *;generalize l.length=L at *;cases B
 ·go_enter Tryz.func34,Tryz.ntmps34
  go_wp2_with (first
   |(go_at_call 57;refine(hnam _).mono ?_;rintro e w1 ⟨rfl,hb1⟩;have hN1:=(zi.new w _ _).below hb1 (by simp);have n0:=hN1.cell 0;have n2:=hN1.cell 2;have n4:=hN1.cell 4;have q0:=hN1.cell 1;have q3:=hN1.cell 3;have hlN:=hN1.lt)
   |(go_at_call 58;refine(hnum _).mono ?_;rintro e w2 ⟨rfl,hb2⟩))
  go_ret
  exact⟨rfl,((zh w _).trans (hb1.mono (by simp))).trans (hb2.mono (by have:=hb1.size;simp at this;omega))⟩
 ·by_cases hL0:L=0
  ·subst hL0
   go_enter Tryz.func34,Tryz.ntmps34
   go_wp2_with (first
    |(go_at_call 57;refine(hnam _).mono ?_;rintro e w1 ⟨rfl,hb1⟩;have hN1:=(zi.new w _ _).below hb1 (by simp);have n0:=hN1.cell 0;have n2:=hN1.cell 2;have n4:=hN1.cell 4;have q0:=hN1.cell 1;have q3:=hN1.cell 3;have hlN:=hN1.lt)
    |(go_at_call 58;refine(hnum _).mono ?_;rintro e w2 ⟨rfl,hb2⟩;have m4:=(hN1.below hb2 hlN).cell 4))
   go_ret
   exact⟨rfl,((zh w _).trans (hb1.mono (by simp))).trans (hb2.mono (by have:=hb1.size;simp at this;omega))⟩
  ·have hL0':¬(L:Int)=0:=by omega
   go_enter Tryz.func34,Tryz.ntmps34
   go_wp2_with (first
    |(go_at_call 57;refine(hnam _).mono ?_;rintro e w1 ⟨rfl,hb1⟩;have hN1:=(zi.new w _ _).below hb1 (by simp);have n0:=hN1.cell 0;have n2:=hN1.cell 2;have n4:=hN1.cell 4;have q0:=hN1.cell 1;have q3:=hN1.cell 3;have hlN:=hN1.lt)
    |(go_at_call 58;refine(hnum _).mono ?_;rintro e w2 ⟨rfl,hb2⟩;have m4:=(hN1.below hb2 hlN).cell 4))
   go_ret
   exact⟨by simp[hL0],((zh w _).trans (hb1.mono (by simp))).trans (hb2.mono (by have:=hb1.size;simp at this;omega))⟩
theorem Jy(s:List UInt8)(M at_:Int)(l:List Nd)(A:Option Addr)(C:Nat)(w:World)(h:j0 w (.mk zj s M at_ l) A C)(hname:yb s=true):
 Calls Tryz.prog 34 #[.agg (qa (.mk zj s M at_ l) (.slice A l.length C))] w (QT w (vz (.mk zj s M at_ l))):=by
 have hlen:=h.len;have hnam:=λW=>jG (.mk zj s M at_ l) A l.length C W (by have:=h.s;omega)
 have hl2:((l.length:Nat):Int)≤9223372036854775807:=by have h1:=hlen.1;have h2:=hlen.2;simp only[Nd.l]at h1;omega
 simp only[Nd.s,hname]at hnam;have hnum:=λW=>xz (.mk zj s M at_ l) A l.length C W
 have hR:vz (.mk zj s M at_ l)=(yE M&&decide (l.length=0)):=if_pos (by first |exact .inl rfl|exact .inr rfl);rw[hR];unfold qa at hnum;simp only[Nd.op,Nd.s,Nd.n,Nd.a,JL]at hnum;unfold qa at hnam ⊢;simp only[Nd.op,Nd.s,Nd.n,Nd.a,JL]at hnam ⊢;clear h hlen hR;generalize yE M=B at *;generalize l.length=L at *;cases B
 ·go_enter Tryz.func34,Tryz.ntmps34
  go_wp2_with (first
   |(go_at_call 57;refine(hnam _).mono ?_;rintro e w1 ⟨rfl,hb1⟩;have hN1:=(zi.new w _ _).below hb1 (by simp);have n0:=hN1.cell 0;have n2:=hN1.cell 2;have n4:=hN1.cell 4;have q0:=hN1.cell 1;have q3:=hN1.cell 3;have hlN:=hN1.lt)
   |(go_at_call 58;refine(hnum _).mono ?_;rintro e w2 ⟨rfl,hb2⟩))
  go_ret
  exact⟨rfl,((zh w _).trans (hb1.mono (by simp))).trans (hb2.mono (by have:=hb1.size;simp at this;omega))⟩
 ·by_cases hL0:L=0
  ·subst hL0
   go_enter Tryz.func34,Tryz.ntmps34
   go_wp2_with (first
    |(go_at_call 57;refine(hnam _).mono ?_;rintro e w1 ⟨rfl,hb1⟩;have hN1:=(zi.new w _ _).below hb1 (by simp);have n0:=hN1.cell 0;have n2:=hN1.cell 2;have n4:=hN1.cell 4;have q0:=hN1.cell 1;have q3:=hN1.cell 3;have hlN:=hN1.lt)
    |(go_at_call 58;refine(hnum _).mono ?_;rintro e w2 ⟨rfl,hb2⟩;have m4:=(hN1.below hb2 hlN).cell 4))
   go_ret
   exact⟨rfl,((zh w _).trans (hb1.mono (by simp))).trans (hb2.mono (by have:=hb1.size;simp at this;omega))⟩
  ·have hL0':¬(L:Int)=0:=by omega
   go_enter Tryz.func34,Tryz.ntmps34
   go_wp2_with (first
    |(go_at_call 57;refine(hnam _).mono ?_;rintro e w1 ⟨rfl,hb1⟩;have hN1:=(zi.new w _ _).below hb1 (by simp);have n0:=hN1.cell 0;have n2:=hN1.cell 2;have n4:=hN1.cell 4;have q0:=hN1.cell 1;have q3:=hN1.cell 3;have hlN:=hN1.lt)
    |(go_at_call 58;refine(hnum _).mono ?_;rintro e w2 ⟨rfl,hb2⟩;have m4:=(hN1.below hb2 hlN).cell 4))
   go_ret
   exact⟨by simp[hL0],((zh w _).trans (hb1.mono (by simp))).trans (hb2.mono (by have:=hb1.size;simp at this;omega))⟩
theorem Ur(s:List UInt8)(M at_:Int)(l:List Nd)(A:Option Addr)(C:Nat)(w:World)(h:j0 w (.mk qj s M at_ l) A C)(hname:yb s=true):
 Calls Tryz.prog 34 #[.agg (qa (.mk qj s M at_ l) (.slice A l.length C))] w (QT w (vz (.mk qj s M at_ l))):=by
 have hlen:=h.len;have hnam:=λW=>jG (.mk qj s M at_ l) A l.length C W (by have:=h.s;omega)
 have hl2:((l.length:Nat):Int)≤9223372036854775807:=by have h1:=hlen.1;have h2:=hlen.2;simp only[Nd.l]at h1;omega
 simp only[Nd.s,hname]at hnam;have hR:vz (.mk qj s M at_ l)=(decide (M=0)&&decide (l.length=1)&&yS (l.getD 0 (.mk [] [] 0 0 []))):=(if_neg (by show ¬(qj=zd∨qj=zj);decide)).trans (if_pos (by first |exact .inl rfl|exact .inr rfl));rw[hR];unfold qa at hnam ⊢;simp only[Nd.op,Nd.s,Nd.n,Nd.a,Dk]at hnam ⊢;by_cases hM:M=0
 ·subst hM
  by_cases hL1:l.length=1
  ·obtain⟨m,rfl⟩:=List.length_eq_one_iff.1 hL1
   obtain⟨g,off,u,rfl,hg,hc,hru,hsu,hou⟩:=h.rd.get 0 (by simp[Nd.l]);simp only[Nd.l,List.getElem_cons_zero]at hc hru hsu hou;obtain⟨Au,Cu,rfl,hu1,hu2⟩:=hru.slice;have d0:=hc 0 (by decide);have d1:=hc 1 (by decide);have d2:=hc 2 (by decide);have d3:=hc 3 (by decide);have d4:=hc 4 (by decide);simp only[qa,Nat.zero_mul,Nat.add_zero]at d0 d1 d2 d3 d4;have hgu:∀W,Below w.heap.size w W→j0 W m Au Cu:=λW hW=>j0.grow (w:=w) ⟨hru,hsu,hou⟩ hW
   have hsub:∀W,Below w.heap.size w W→Calls Tryz.prog 59 #[.agg #[.string (bs m.op),.string (bs m.s),.int .i64 m.n,.int .i64 m.a,.slice Au m.l.length Cu]] W (QT W (yS m)):=λW hW=>kc m Au m.l.length Cu W hsu rfl (Nat.le_trans hu1 hu2)
   obtain⟨B,hB⟩:∃B,B=yS m:=⟨_,rfl⟩
   have hV:(decide ((0:Int)=0)&&decide (([m]:List Nd).length=1)&&yS (([m]:List Nd).getD 0 (.mk [] [] 0 0 [])))=B:=by rw[hB];simp
   rw[←hB]at hsub;rw[hV];clear hV hB;show Calls _ _ _ _ (QT w B);rw[show([m]:List Nd).length=1 from rfl]at hnam ⊢;clear h hlen hR hc hL1 hl2;go_enter Tryz.func34,Tryz.ntmps34
   go_wp2_with (first
    |((go_at_call 57)
      refine(hnam _).mono ?_;rintro e w1 ⟨rfl,hb1⟩;have hN1:=(zi.new w _ _).below hb1 (by simp);have n0:=hN1.cell 0;have n2:=hN1.cell 2;have n4:=hN1.cell 4;have hlN:=hN1.lt;have hbw:Below w.heap.size w w1:=(zh w _).trans (hb1.mono (by simp));have e0:=za hbw d0;have e1:=za hbw d1;have e2:=za hbw d2;have e3:=za hbw d3;(have e4:=za hbw d4))
    |(go_at_call 59;refine(hsub _ hbw).mono ?_;rintro e w2 ⟨rfl,hb2⟩))
   go_ret
   exact⟨rfl,hbw.trans (hb2.mono hbw.size)⟩
  ·have hL1':¬((l.length:Nat):Int)=1:=by omega
   have hD:decide (l.length=1)=false:=by simp[hL1]
   rw[hD,Bool.and_false,Bool.false_and];clear h hlen hR hD;generalize l.length=L at *;go_enter Tryz.func34,Tryz.ntmps34
   go_wp2_with (go_at_call 57;refine(hnam _).mono ?_;rintro e w1 ⟨rfl,hb1⟩;have hN1:=(zi.new w _ _).below hb1 (by simp);have n0:=hN1.cell 0;have n2:=hN1.cell 2;have n4:=hN1.cell 4;have q0:=hN1.cell 1;have q3:=hN1.cell 3;have hlN:=hN1.lt)
   go_ret
   exact⟨rfl,(zh w _).trans (hb1.mono (by simp))⟩
 ·have hD:decide (M=0)=false:=by simp[hM]
  rw[hD,Bool.false_and,Bool.false_and];clear h hlen hR hD;generalize l.length=L at *;go_enter Tryz.func34,Tryz.ntmps34
  go_wp2_with (go_at_call 57;refine(hnam _).mono ?_;rintro e w1 ⟨rfl,hb1⟩;have hN1:=(zi.new w _ _).below hb1 (by simp);have n0:=hN1.cell 0;have n2:=hN1.cell 2;have n4:=hN1.cell 4;have q0:=hN1.cell 1;have q3:=hN1.cell 3;have hlN:=hN1.lt)
  go_ret
  exact⟨rfl,(zh w _).trans (hb1.mono (by simp))⟩
theorem XY(s:List UInt8)(M at_:Int)(l:List Nd)(A:Option Addr)(C:Nat)(w:World)(h:j0 w (.mk zS s M at_ l) A C)(hname:yb s=true):
 Calls Tryz.prog 34 #[.agg (qa (.mk zS s M at_ l) (.slice A l.length C))] w (QT w (vz (.mk zS s M at_ l))):=by
 have hlen:=h.len;have hnam:=λW=>jG (.mk zS s M at_ l) A l.length C W (by have:=h.s;omega)
 have hl2:((l.length:Nat):Int)≤9223372036854775807:=by have h1:=hlen.1;have h2:=hlen.2;simp only[Nd.l]at h1;omega
 simp only[Nd.s,hname]at hnam;have hR:vz (.mk zS s M at_ l)=(decide (M=0)&&decide (l.length=1)&&yS (l.getD 0 (.mk [] [] 0 0 []))):=(if_neg (by show ¬(zS=zd∨zS=zj);decide)).trans (if_pos (by first |exact .inl rfl|exact .inr rfl));rw[hR];unfold qa at hnam ⊢;simp only[Nd.op,Nd.s,Nd.n,Nd.a,fc]at hnam ⊢;by_cases hM:M=0
 ·subst hM
  by_cases hL1:l.length=1
  ·obtain⟨m,rfl⟩:=List.length_eq_one_iff.1 hL1
   obtain⟨g,off,u,rfl,hg,hc,hru,hsu,hou⟩:=h.rd.get 0 (by simp[Nd.l]);simp only[Nd.l,List.getElem_cons_zero]at hc hru hsu hou;obtain⟨Au,Cu,rfl,hu1,hu2⟩:=hru.slice;have d0:=hc 0 (by decide);have d1:=hc 1 (by decide);have d2:=hc 2 (by decide);have d3:=hc 3 (by decide);have d4:=hc 4 (by decide);simp only[qa,Nat.zero_mul,Nat.add_zero]at d0 d1 d2 d3 d4;have hgu:∀W,Below w.heap.size w W→j0 W m Au Cu:=λW hW=>j0.grow (w:=w) ⟨hru,hsu,hou⟩ hW
   have hsub:∀W,Below w.heap.size w W→Calls Tryz.prog 59 #[.agg #[.string (bs m.op),.string (bs m.s),.int .i64 m.n,.int .i64 m.a,.slice Au m.l.length Cu]] W (QT W (yS m)):=λW hW=>kc m Au m.l.length Cu W hsu rfl (Nat.le_trans hu1 hu2)
   obtain⟨B,hB⟩:∃B,B=yS m:=⟨_,rfl⟩
   have hV:(decide ((0:Int)=0)&&decide (([m]:List Nd).length=1)&&yS (([m]:List Nd).getD 0 (.mk [] [] 0 0 [])))=B:=by rw[hB];simp
   rw[←hB]at hsub;rw[hV];clear hV hB;show Calls _ _ _ _ (QT w B);rw[show([m]:List Nd).length=1 from rfl]at hnam ⊢;clear h hlen hR hc hL1 hl2;go_enter Tryz.func34,Tryz.ntmps34
   go_wp2_with (first
    |((go_at_call 57)
      refine(hnam _).mono ?_;rintro e w1 ⟨rfl,hb1⟩;have hN1:=(zi.new w _ _).below hb1 (by simp);have n0:=hN1.cell 0;have n2:=hN1.cell 2;have n4:=hN1.cell 4;have hlN:=hN1.lt;have hbw:Below w.heap.size w w1:=(zh w _).trans (hb1.mono (by simp));have e0:=za hbw d0;have e1:=za hbw d1;have e2:=za hbw d2;have e3:=za hbw d3;(have e4:=za hbw d4))
    |(go_at_call 59;refine(hsub _ hbw).mono ?_;rintro e w2 ⟨rfl,hb2⟩))
   go_ret
   exact⟨rfl,hbw.trans (hb2.mono hbw.size)⟩
  ·have hL1':¬((l.length:Nat):Int)=1:=by omega
   have hD:decide (l.length=1)=false:=by simp[hL1]
   rw[hD,Bool.and_false,Bool.false_and];clear h hlen hR hD;generalize l.length=L at *;go_enter Tryz.func34,Tryz.ntmps34
   go_wp2_with (go_at_call 57;refine(hnam _).mono ?_;rintro e w1 ⟨rfl,hb1⟩;have hN1:=(zi.new w _ _).below hb1 (by simp);have n0:=hN1.cell 0;have n2:=hN1.cell 2;have n4:=hN1.cell 4;have q0:=hN1.cell 1;have q3:=hN1.cell 3;have hlN:=hN1.lt)
   go_ret
   exact⟨rfl,(zh w _).trans (hb1.mono (by simp))⟩
 ·have hD:decide (M=0)=false:=by simp[hM]
  rw[hD,Bool.false_and,Bool.false_and];clear h hlen hR hD;generalize l.length=L at *;go_enter Tryz.func34,Tryz.ntmps34
  go_wp2_with (go_at_call 57;refine(hnam _).mono ?_;rintro e w1 ⟨rfl,hb1⟩;have hN1:=(zi.new w _ _).below hb1 (by simp);have n0:=hN1.cell 0;have n2:=hN1.cell 2;have n4:=hN1.cell 4;have q0:=hN1.cell 1;have q3:=hN1.cell 3;have hlN:=hN1.lt)
  go_ret
  exact⟨rfl,(zh w _).trans (hb1.mono (by simp))⟩
theorem Vf(s:List UInt8)(M at_:Int)(l:List Nd)(A:Option Addr)(C:Nat)(w:World)(h:j0 w (.mk zr s M at_ l) A C)(hname:yb s=true):
 Calls Tryz.prog 34 #[.agg (qa (.mk zr s M at_ l) (.slice A l.length C))] w (QT w (vz (.mk zr s M at_ l))):=by
 have hlen:=h.len;have hnam:=λW=>jG (.mk zr s M at_ l) A l.length C W (by have:=h.s;omega)
 have hl2:((l.length:Nat):Int)≤9223372036854775807:=by have h1:=hlen.1;have h2:=hlen.2;simp only[Nd.l]at h1;omega
 simp only[Nd.s,hname]at hnam;have hR:vz (.mk zr s M at_ l)=(decide (M=0)&&decide (l.length=1)&&qg 12 (l.getD 0 (.mk [] [] 0 0 []))):=(if_neg (by show ¬(zr=zd∨zr=zj);decide)).trans ((if_neg (by show ¬(zr=qj∨zr=zS);decide)).trans (if_pos rfl));rw[hR];unfold qa at hnam ⊢;simp only[Nd.op,Nd.s,Nd.n,Nd.a,Gw]at hnam ⊢;by_cases hM:M=0
 ·subst hM
  by_cases hL1:l.length=1
  ·obtain⟨m,rfl⟩:=List.length_eq_one_iff.1 hL1
   obtain⟨g,off,u,rfl,hg,hc,hru,hsu,hou⟩:=h.rd.get 0 (by simp[Nd.l]);simp only[Nd.l,List.getElem_cons_zero]at hc hru hsu hou;obtain⟨Au,Cu,rfl,hu1,hu2⟩:=hru.slice;have d0:=hc 0 (by decide);have d1:=hc 1 (by decide);have d2:=hc 2 (by decide);have d3:=hc 3 (by decide);have d4:=hc 4 (by decide);simp only[qa,Nat.zero_mul,Nat.add_zero]at d0 d1 d2 d3 d4;have hgu:∀W,Below w.heap.size w W→j0 W m Au Cu:=λW hW=>j0.grow (w:=w) ⟨hru,hsu,hou⟩ hW
   have hsub:∀W,Below w.heap.size w W→Calls Tryz.prog 60 #[.agg #[.string (bs m.op),.string (bs m.s),.int .i64 m.n,.int .i64 m.a,.slice Au m.l.length Cu],.int .i64 1] W (QT W (qg 12 m)):=λW hW=>ui 12 1 m Au Cu W rfl (hgu W hW)
   obtain⟨B,hB⟩:∃B,B=qg 12 m:=⟨_,rfl⟩
   have hV:(decide ((0:Int)=0)&&decide (([m]:List Nd).length=1)&&qg 12 (([m]:List Nd).getD 0 (.mk [] [] 0 0 [])))=B:=by rw[hB];simp
   rw[←hB]at hsub;rw[hV];clear hV hB;show Calls _ _ _ _ (QT w B);rw[show([m]:List Nd).length=1 from rfl]at hnam ⊢;clear h hlen hR hc hL1 hl2;go_enter Tryz.func34,Tryz.ntmps34
   go_wp2_with (first
    |((go_at_call 57)
      refine(hnam _).mono ?_;rintro e w1 ⟨rfl,hb1⟩;have hN1:=(zi.new w _ _).below hb1 (by simp);have n0:=hN1.cell 0;have n2:=hN1.cell 2;have n4:=hN1.cell 4;have hlN:=hN1.lt;have hbw:Below w.heap.size w w1:=(zh w _).trans (hb1.mono (by simp));have e0:=za hbw d0;have e1:=za hbw d1;have e2:=za hbw d2;have e3:=za hbw d3;(have e4:=za hbw d4))
    |(go_at_call 60;refine(hsub _ hbw).mono ?_;rintro e w2 ⟨rfl,hb2⟩))
   go_ret
   exact⟨rfl,hbw.trans (hb2.mono hbw.size)⟩
  ·have hL1':¬((l.length:Nat):Int)=1:=by omega
   have hD:decide (l.length=1)=false:=by simp[hL1]
   rw[hD,Bool.and_false,Bool.false_and];clear h hlen hR hD;generalize l.length=L at *;go_enter Tryz.func34,Tryz.ntmps34
   go_wp2_with (go_at_call 57;refine(hnam _).mono ?_;rintro e w1 ⟨rfl,hb1⟩;have hN1:=(zi.new w _ _).below hb1 (by simp);have n0:=hN1.cell 0;have n2:=hN1.cell 2;have n4:=hN1.cell 4;have q0:=hN1.cell 1;have q3:=hN1.cell 3;have hlN:=hN1.lt)
   go_ret
   exact⟨rfl,(zh w _).trans (hb1.mono (by simp))⟩
 ·have hD:decide (M=0)=false:=by simp[hM]
  rw[hD,Bool.false_and,Bool.false_and];clear h hlen hR hD;generalize l.length=L at *;go_enter Tryz.func34,Tryz.ntmps34
  go_wp2_with (go_at_call 57;refine(hnam _).mono ?_;rintro e w1 ⟨rfl,hb1⟩;have hN1:=(zi.new w _ _).below hb1 (by simp);have n0:=hN1.cell 0;have n2:=hN1.cell 2;have n4:=hN1.cell 4;have q0:=hN1.cell 1;have q3:=hN1.cell 3;have hlN:=hN1.lt)
  go_ret
  exact⟨rfl,(zh w _).trans (hb1.mono (by simp))⟩
theorem VZ(s:List UInt8)(M at_:Int)(l:List Nd)(A:Option Addr)(C:Nat)(w:World)(h:j0 w (.mk zH s M at_ l) A C)(hname:yb s=true):
 Calls Tryz.prog 34 #[.agg (qa (.mk zH s M at_ l) (.slice A l.length C))] w (QT w (vz (.mk zH s M at_ l))):=by
 have hlen:=h.len;have hnam:=λW=>jG (.mk zH s M at_ l) A l.length C W (by have:=h.s;omega)
 have hl2:((l.length:Nat):Int)≤9223372036854775807:=by have h1:=hlen.1;have h2:=hlen.2;simp only[Nd.l]at h1;omega
 simp only[Nd.s,hname]at hnam;have hR:vz (.mk zH s M at_ l)=((decide (M=0)||decide (M=1))&&decide (l.length=0)):=(if_neg (by show ¬(zH=zd∨zH=zj);decide)).trans ((if_neg (by show ¬(zH=qj∨zH=zS);decide)).trans ((if_neg (by show ¬zH=zr;decide)).trans (if_pos rfl)));rw[hR];unfold qa at hnam ⊢;simp only[Nd.op,Nd.s,Nd.n,Nd.a,un]at hnam ⊢;clear h hlen hR;generalize l.length=L at *;by_cases hM:M=0
 ·subst hM
  by_cases hL0:L=0
  ·subst hL0
   go_enter Tryz.func34,Tryz.ntmps34
   go_wp2_with (go_at_call 57;refine(hnam _).mono ?_;rintro e w1 ⟨rfl,hb1⟩;have hN1:=(zi.new w _ _).below hb1 (by simp);have n0:=hN1.cell 0;have n2:=hN1.cell 2;have n4:=hN1.cell 4;have q0:=hN1.cell 1;have q3:=hN1.cell 3;have hlN:=hN1.lt)
   go_ret
   exact⟨rfl,(zh w _).trans (hb1.mono (by simp))⟩
  ·have hL0':¬(L:Int)=0:=by omega
   go_enter Tryz.func34,Tryz.ntmps34
   go_wp2_with (go_at_call 57;refine(hnam _).mono ?_;rintro e w1 ⟨rfl,hb1⟩;have hN1:=(zi.new w _ _).below hb1 (by simp);have n0:=hN1.cell 0;have n2:=hN1.cell 2;have n4:=hN1.cell 4;have q0:=hN1.cell 1;have q3:=hN1.cell 3;have hlN:=hN1.lt)
   go_ret
   exact⟨by simp[hL0],(zh w _).trans (hb1.mono (by simp))⟩
 ·by_cases hM1:M=1
  ·subst hM1
   by_cases hL0:L=0
   ·subst hL0
    go_enter Tryz.func34,Tryz.ntmps34
    go_wp2_with (go_at_call 57;refine(hnam _).mono ?_;rintro e w1 ⟨rfl,hb1⟩;have hN1:=(zi.new w _ _).below hb1 (by simp);have n0:=hN1.cell 0;have n2:=hN1.cell 2;have n4:=hN1.cell 4;have q0:=hN1.cell 1;have q3:=hN1.cell 3;have hlN:=hN1.lt)
    go_ret
    exact⟨rfl,(zh w _).trans (hb1.mono (by simp))⟩
   ·have hL0':¬(L:Int)=0:=by omega
    go_enter Tryz.func34,Tryz.ntmps34
    go_wp2_with (go_at_call 57;refine(hnam _).mono ?_;rintro e w1 ⟨rfl,hb1⟩;have hN1:=(zi.new w _ _).below hb1 (by simp);have n0:=hN1.cell 0;have n2:=hN1.cell 2;have n4:=hN1.cell 4;have q0:=hN1.cell 1;have q3:=hN1.cell 3;have hlN:=hN1.lt)
    go_ret
    exact⟨by simp[hL0],(zh w _).trans (hb1.mono (by simp))⟩
  ·go_enter Tryz.func34,Tryz.ntmps34
   go_wp2_with (go_at_call 57;refine(hnam _).mono ?_;rintro e w1 ⟨rfl,hb1⟩;have hN1:=(zi.new w _ _).below hb1 (by simp);have n0:=hN1.cell 0;have n2:=hN1.cell 2;have n4:=hN1.cell 4;have q0:=hN1.cell 1;have q3:=hN1.cell 3;have hlN:=hN1.lt)
   go_ret
   exact⟨by simp[hM,hM1],(zh w _).trans (hb1.mono (by simp))⟩
theorem JA(n:Nd)(A:Option Addr)(C:Nat)(w:World)(h:j0 w n A C):Calls Tryz.prog 34 #[.agg (qa n (.slice A n.l.length C))] w (QT w (vS n)):=by
 rw[kQ];cases hname:yb n.s with
 |false =>
  have hnam:=λW=>jG n A n.l.length C W (by have:=h.s;omega)
  rw[hname]at hnam;unfold qa at *;clear hname;go_enter Tryz.func34,Tryz.ntmps34
  go_wp2_with (go_at_call 57;refine(hnam _).mono ?_;rintro e w1 ⟨rfl,hb1⟩)
  go_ret
  exact⟨rfl,(zh w _).trans (hb1.mono (by simp))⟩
 |true =>
  rw[Bool.true_and];obtain⟨op,s,M,at_,l⟩:=n;simp only[Nd.s]at hname;by_cases h1:op=zd
  ·subst h1;exact VU s M at_ l A C w h hname
  by_cases h2:op=zj
  ·subst h2;exact Jy s M at_ l A C w h hname
  by_cases h3:op=qj
  ·subst h3;exact Ur s M at_ l A C w h hname
  by_cases h4:op=zS
  ·subst h4;exact XY s M at_ l A C w h hname
  by_cases h5:op=zr
  ·subst h5;exact Vf s M at_ l A C w h hname
  by_cases h6:op=zH
  ·subst h6;exact VZ s M at_ l A C w h hname
  have hR:vz (.mk op s M at_ l)=false:=(if_neg (by show ¬(op=zd∨op=zj);simp[h1,h2])).trans ((if_neg (by show ¬(op=qj∨op=zS);simp[h3,h4])).trans ((if_neg h5).trans (if_neg h6)));rw[hR];have hnam:=λW=>jG (.mk op s M at_ l) A l.length C W (by have:=h.s;omega)
  simp only[Nd.s,hname]at hnam;have ho:=zp op;have t1:(op== [100,101,118,105,99,101])=false:=by rw[beq_eq_false_iff_ne];exact h1
  have t2:(op== [106,111,117,114,110,97,108])=false:=by rw[beq_eq_false_iff_ne];exact h2
  have t3:(op== [107,101,121])=false:=by rw[beq_eq_false_iff_ne];exact h3
  have t4:(op== [114,111,111,116])=false:=by rw[beq_eq_false_iff_ne];exact h4
  have t5:(op== [118,111,108,117,109,101])=false:=by rw[beq_eq_false_iff_ne];exact h5
  have t6:(op== [101,120,112,111,114,116])=false:=by rw[beq_eq_false_iff_ne];exact h6
  unfold qa at *;simp only[Nd.op,Nd.s,Nd.n,Nd.a,Nd.l]at *;generalize l.length=L at *;clear hR hname h1 h2 h3 h4 h5 h6;go_enter Tryz.func34,Tryz.ntmps34
  go_wp2_with (go_at_call 57;refine(hnam _).mono ?_;rintro e w1 ⟨rfl,hb1⟩;have hN1:=(zi.new w _ _).below hb1 (by simp);have n0:=hN1.cell 0)
  go_ret
  exact⟨rfl,(zh w _).trans (hb1.mono (by simp))⟩
theorem Fb(n:Nd)(A:Option Addr)(C:Nat)(w:World)(h:j0 w n A C):Calls Tryz.prog 16 #[.agg (qa n (.slice A n.l.length C))] w (QT w (xm n)):=by
 have hlen:=h.len;have ho:=zp n.op;have hs:=zp n.s;have hst:=λm Au Cu W (hr:j0 W m Au Cu)=>JA m Au Cu W hr
 obtain⟨L,hL⟩:∃L,L=n.l.length:=⟨_,rfl⟩
 have HL:Hid (L=n.l.length):=hL;have hL2:L≤9223372036854775807:=by omega
 have hE:xm n=((List.range L).all (λi=>vS (n.l.getD i (.mk [] [] 0 0 [])))&&(n.op==ZM&&(n.s== []&&decide (n.n=0)))):=by
  unfold xm;rw[hL,Bool.and_assoc,Bool.and_assoc]
  congr 1
  rw[Bool.eq_iff_iff,List.all_eq_true,List.all_eq_true];constructor
  ·intro hh i hi
   have hi':=List.mem_range.1 hi;rw[List.getD_eq_getElem?_getD,List.getElem?_eq_getElem hi'];exact hh _ (List.getElem_mem hi')
  ·intro hh x hx
   obtain⟨i,hi,rfl⟩:=List.getElem_of_mem hx;have:=hh i (List.mem_range.2 hi);rw[List.getD_eq_getElem?_getD,List.getElem?_eq_getElem hi]at this;exact this
 rw[hE,←hL];generalize hp:(λi=>vS (n.l.getD i (.mk [] [] 0 0 [])))=p;have HP:Hid (∀i,p i=vS (n.l.getD i (.mk [] [] 0 0 []))):=λi=>by rw[←hp]
 have hrd:=h;clear hp hE hL hlen;rw[show(qa n (.slice A L C))= #[.string (bs n.op),.string (bs n.s),.int .i64 n.n,.int .i64 n.a,.slice A L C]from rfl];go_enter Tryz.func16,Tryz.ntmps16
 go_wp2
 obtain⟨W1,hW1⟩:∃W,W=w.alloc (.cells #[.string (bs n.op),.string (bs n.s),.int .i64 n.n,.int .i64 n.a,.slice A L C] 24):=⟨_,rfl⟩
 have hb1:Below w.heap.size w W1:=by rw[hW1];exact zh _ _
 have hN1:zi W1 w.heap.size 24 #[.string (bs n.op),.string (bs n.s),.int .i64 n.n,.int .i64 n.a,.slice A L C]:=by rw[hW1];exact zi.new _ _ _
 rw[←hW1];clear hW1;have hA0:(List.range 0).all p=true:=rfl
 go_loopw [8] (λz wz=>∃i:Nat,i≤L∧z= .int .i64 (i:Nat)∧Below W1.heap.size W1 wz∧(List.range i).all p=true) (λz _=>L-(intOf z).toNat)
 case atStart=>exact⟨0,Nat.zero_le _,rfl,Below.refl _ _,hA0⟩
 case round =>
  clear hA0;obtain⟨i,hi,rfl,hbz,hall⟩:=hrel;have HA:Hid ((List.range i).all p=true):=hall;clear hall;have hbwr:Below w.heap.size w wr:=hb1.trans (hbz.mono hb1.size);by_cases hiL:i<L
  ·have hiL2:(i:Int)<(L:Int):=by omega
   have hiL':i<n.l.length:=by rw[←HL.out];exact hiL
   have hR:=(hrd.grow hbwr).rd;rw[←HL.out]at hR;obtain⟨g,off,u,rfl,hg,hc,hru,hsu,hou⟩:=hR.get i hiL'
   obtain⟨m,hm⟩:∃m,m=n.l[i]:=⟨_,rfl⟩
   rw[←hm]at hc hru hsu hou;obtain⟨Au,Cu,rfl,-,-⟩:=hru.slice;have d0:=hc 0 (by decide);have d1:=hc 1 (by decide);have d2:=hc 2 (by decide);have d3:=hc 3 (by decide);have d4:=hc 4 (by decide);simp only[Nat.add_zero]at d0;simp only[qa]at d0 d1 d2 d3 d4;have hp1:p i=vS m:=by rw[HP.out i,hm,List.getD_eq_getElem?_getD,List.getElem?_eq_getElem hiL'];rfl
   have HP1:Hid (p i=vS m):=hp1;have hpm:=λW hW=>hst m Au Cu W (j0.grow (w:=wr) ⟨hru,hsu,hou⟩ hW)
   unfold qa at hpm;generalize vS m=V at hpm HP1;clear hp1 hm hc hR hst;cases V with
   |true =>
    go_wp2_with (go_at_call 34;refine(hpm _ (zh _ _)).mono ?_;rintro e w4 ⟨rfl,hb4⟩)
    go_roundw
    case rel=>exact⟨i+1,by omega,by go_num,hbz.trans (((zh wr _).trans (hb4.mono (by simp))).mono hbz.size),by rw[Je,HA.out,HP1.out];rfl⟩
    case measure=>simp[intOf];omega
   |false =>
    go_wp2_with (go_at_call 34;refine(hpm _ (zh _ _)).mono ?_;rintro e w4 ⟨rfl,hb4⟩)
    go_ret
    refine⟨qb ?_,hbwr.trans (((zh wr _).trans (hb4.mono (by simp))).mono hbwr.size)⟩
    symm
    have :(List.range L).all p=false:=by
     rw[List.all_eq_false];exact⟨i,List.mem_range.2 hiL,by rw[HP1.out];decide⟩
    rw[this,Bool.false_and]
  ·have hiL2:i=L:=by omega
   subst hiL2;have hN2:=hN1.below hbz hN1.lt;have x0:=hN2.cell 0;have x1:=hN2.cell 1;have x2:=hN2.cell 2;clear hst;generalize n.n=M at *
   cases e1:(n.op==ZM)
   ·have e1':(n.op== [102,105,108,101])=false:=e1
    go_wp2
    go_ret
    exact⟨qb (by rw[HA.out,e1];rfl),hbwr⟩
   ·have e1':(n.op== [102,105,108,101])=true:=e1
    cases e2:(n.s== [])
    ·go_wp2
     go_ret
     exact⟨qb (by rw[HA.out,e1,e2];rfl),hbwr⟩
    ·by_cases hM:M=0
     ·subst hM
      go_wp2
      go_ret
      exact⟨qb (by rw[HA.out]),hbwr⟩
     ·go_wp2
      go_ret
      exact⟨qb (by rw[HA.out,e1,e2];simp[hM]),hbwr⟩
def XI(w:World)(rb:Nat)(A:Option Addr)(C:Nat)(ts:zt)(i en:Nat)(bad:Int)(p:Tk→Bool)(e:Ending)(w':World):Prop:=∃(i':Nat) (bad':Int) (x:Tk×Nat),e= .returned (.agg (jy x.1 x.2))∧qH w rb A C ts i en w' i' bad'∧zT bad (zB p en (ts.drop i)) ts x i' bad'∧(x ∈ ts∨x=(⟨0,[],0⟩,0))
theorem Kp.drew{p:Nat}{w w':World}(h:Kp p w w'):Kp p w w'.drew:=⟨h.os,h.tape,h.output,h.size,h.block⟩
theorem zi.oth4{w:World}{g g' t:Nat}{cs:Array Value}(h:zi w g t cs)(hne:g≠g')(x0 x1 x2 x3:Value):zi ((((w.setCell ⟨g',0,none⟩ x0).setCell ⟨g',1,none⟩ x1).setCell ⟨g',2,none⟩ x2).setCell ⟨g',3,none⟩ x3) g t cs:=
 (((h.other (p:=⟨g',0,none⟩) hne x0).other (p:=⟨g',1,none⟩) hne x1).other (p:=⟨g',2,none⟩) hne x2).other (p:=⟨g',3,none⟩) hne x3
theorem yw{w:World}{rb:Nat}{A:Option Addr}{C:Nat}{ts:zt}{i en:Nat}{bad k:Int}(h:zw w rb A C ts i en bad k)(K:Nat):Calls Tryz.prog 31 #[.pointer (some ⟨rb,0,none⟩),.int .i64 (K:Nat)] w (XI w rb A C ts i en bad (yQ K)):=by
 have c0:=h.has.cell 0;have c1:=h.has.cell 1;have c3:=h.has.cell 3;simp only[qt,qu,qr]at c0 c1 c3;have hlt:=h.has.lt;have hf:=h.few;have hle:=h.le;have h':=h.kp (zh w (.cells #[.int .i64 0,.string ⟨#[]⟩,.int .i64 0,.int .i64 0] 79));have hT:=zi.new w 79 #[.int .i64 0,.string ⟨#[]⟩,.int .i64 0,.int .i64 0];have fin:∀(w1:World) (bad':Int) (k':Int),bad'≠0→(bad≠0∨je (yQ K) (ts.drop i)=false)→zw w1 rb A C ts i en bad' k'→Kp rb (w.alloc (.cells #[.int .i64 0,.string ⟨#[]⟩,.int .i64 0,.int .i64 0] 79)) w1→XI w rb A C ts i en bad (yQ K) (.returned (.agg (jy (⟨0,[],0⟩:Tk) 0))) w1:=λw1 bad' k' hb hc hr hk=>⟨i,bad',(⟨0,[],0⟩,0),rfl,qH.of (Nat.le_refl _) (yL hk) hr,xS hc hb _ _,.inr rfl⟩
 have c0':=za (zh w (.cells #[.int .i64 0,.string ⟨#[]⟩,.int .i64 0,.int .i64 0] 79)) c0;have c1':=za (zh w (.cells #[.int .i64 0,.string ⟨#[]⟩,.int .i64 0,.int .i64 0] 79)) c1;have c3':=za (zh w (.cells #[.int .i64 0,.string ⟨#[]⟩,.int .i64 0,.int .i64 0] 79)) c3;by_cases hs:bad=0∧∃hi:i<ts.length,ts[i].1.kind=K
 ·obtain⟨rfl,hi,hk⟩:=hs
  obtain⟨g,off,rfl,hg,hne,htk0⟩:=h.tok i hi;have htk:=htk0.kp (Kp.of (p:=rb) (zh w (.cells #[.int .i64 0,.string ⟨#[]⟩,.int .i64 0,.int .i64 0] 79))) hne hg;have t0:=htk i hi 0 (by decide);have t1:=htk i hi 1 (by decide);have t2:=htk i hi 2 (by decide);have t3:=htk i hi 3 (by decide);have hx:ts[i] ∈ ts:=List.getElem_mem hi;have hp:yQ K ts[i].1=true:=by simp[yQ,hk]
  have hTell:=xP (en:=en) hi hp;have hq:∀W,zi W rb 54 #[.slice (some ⟨g,off,none⟩) ts.length C,.int .i64 ((i:Int)+1),.int .i64 (en:Nat),.int .i64 0,.int .i64 k]→Kp rb w W→XI w rb (some ⟨g,off,none⟩) C ts i en 0 (yQ K) (.returned (.agg (jy ts[i].1 ts[i].2))) W:=λW hW hkp=>⟨i+1,0,ts[i],rfl,⟨by omega,by omega,hkp,k,hW⟩,hTell,.inl hx⟩
  have hH:=h'.has;clear hTell hp h fin c0 c1 c3 htk htk0 hx h';generalize ts[i]=t at *;generalize ts.length=L at *;have hii:(i:Int)<(L:Int):=by omega
  have hi5:(i:Int)≤500:=by omega
  obtain⟨⟨tk,tss,tn⟩,ta⟩:=t;obtain rfl:tk=K:=hk;simp only[jy,List.getElem?_toArray,List.getElem?_cons_zero,List.getElem?_cons_succ,Nat.add_zero]at t0 t1 t2 t3;have hg2:g≠w.heap.size:=by omega
  have f1:=hH.free 1;have a0:=hT.cell 0;have a1:=hT.cell 1;have a2:=hT.cell 2;have a3:=hT.cell 3;have b0:=hT.free 0;have b1:=hT.free 1;have b2:=hT.free 2;have b3:=hT.free 3;go_enter Tryz.func31,Tryz.ntmps31
  go_wp2
  go_quiet (fail)
  go_wp2
  go_region
  go_wp2
  have hT1:zi (((w.alloc (.cells #[.int .i64 0,.string ⟨#[]⟩,.int .i64 0,.int .i64 0] 79)).drewN nq).setCell ⟨rb,1,none⟩ (.int .i64 ((i:Int)+1))) w.heap.size 79 #[.int .i64 0,.string ⟨#[]⟩,.int .i64 0,.int .i64 0]:=(hT.drewN nq).other (by show w.heap.size≠rb;omega) _;refine VF rfl rfl (zn (hT1.set4 _ _ _ _)) rfl (hq _ ?_ ?_)
  ·have hh:=(hH.drewN nq).putP 1 (.int .i64 ((i:Int)+1))
   have hh2:=hh.oth4 (g':=w.heap.size) (by omega) (.int .i64 (tk:Nat)) (.string (bs tss)) (.int .i64 (tn:Nat)) (.int .i64 (ta:Nat));exact zn hh2
  ·have hk1:Kp rb w (w.alloc (.cells #[.int .i64 0,.string ⟨#[]⟩,.int .i64 0,.int .i64 0] 79)):=Kp.of (zh w _)
   exact Kp.drew ((((((hk1.drewN nq).setP 1 _).setNew (q:=⟨w.heap.size,0,none⟩) (Nat.le_refl _) _).setNew (q:=⟨w.heap.size,1,none⟩) (Nat.le_refl _) _).setNew (q:=⟨w.heap.size,2,none⟩) (Nat.le_refl _) _).setNew (q:=⟨w.heap.size,3,none⟩) (Nat.le_refl _) _)
 ·have hcase:bad≠0∨je (yQ K) (ts.drop i)=false:=by
   by_cases hb:bad=0
   ·right
    by_cases hi:i<ts.length
    ·rw[qh hi]
     simp only[yQ,beq_eq_false_iff_ne];exact λe=>hs ⟨hb,hi,e⟩
    ·exact vi hi
   ·exact .inl hb
  have go:=λw1 bad' k' hb hr hk=>fin w1 bad' k' hb hcase hr hk
  have done:∀(w1:World) (bad' k':Int) (a:Act),bad'≠0→zw w1 rb A C ts i en bad' k'→Kp rb (w.alloc (.cells #[.int .i64 0,.string ⟨#[]⟩,.int .i64 0,.int .i64 0] 79)) w1→a.tmps[4]?.getD undef= .pointer (some ⟨w.heap.size,0,none⟩)→a.defers= []→bodyPost Tryz.prog Tryz.f31 (XI w rb A C ts i en bad (yQ K)) .ret a ((((w1.setCell ⟨w.heap.size,0,none⟩ (.int .i64 0)).setCell ⟨w.heap.size,1,none⟩ (.string ⟨#[]⟩)).setCell ⟨w.heap.size,2,none⟩ (.int .i64 0)).setCell ⟨w.heap.size,3,none⟩ (.int .i64 0)):=by
   intro w1 bad' k' a hb hr hk ht hd;have hT2:zi w1 w.heap.size 79 #[.int .i64 0,.string ⟨#[]⟩,.int .i64 0,.int .i64 0]:=(hk.block _ hT.lt (λe=>by cases e;omega)).trans hT;refine VF rfl ht (hT2.set4 _ _ _ _) hd ?_;refine⟨i,bad',(⟨0,[],0⟩,0),rfl,?_,xS hcase hb _ _,.inr rfl⟩;have h0:qH w rb A C ts i en w1 i bad':=qH.of (Nat.le_refl _) (yL hk) hr;exact(((h0.new (q:=⟨w.heap.size,0,none⟩) (Nat.le_refl _) hlt _).new (q:=⟨w.heap.size,1,none⟩) (Nat.le_refl _) hlt _).new (q:=⟨w.heap.size,2,none⟩) (Nat.le_refl _) hlt _).new (q:=⟨w.heap.size,3,none⟩) (Nat.le_refl _) hlt _
  have hF:=λq=>ZA (h'.drewN q) 111 (by decide)
  clear fin go c0 c1 c3;have hd0:∀b:Int,b≠0→decide (b=0)=false:=λb h=>decide_eq_false h
  by_cases hb:bad=0
  ·subst hb
   by_cases hi:i<ts.length
   ·obtain⟨g,off,rfl,hg,hne,htk0⟩:=h.tok i hi
    have htk:=htk0.kp (Kp.of (p:=rb) (zh w (.cells #[.int .i64 0,.string ⟨#[]⟩,.int .i64 0,.int .i64 0] 79))) hne hg;have t0:=htk i hi 0 (by decide);have hkk:¬ts[i].1.kind=K:=λe=>hs ⟨rfl,hi,e⟩
    clear hs hcase h htk htk0 hd0;generalize ts[i]=t at *;obtain⟨⟨tk,tss,tn⟩,ta⟩:=t;simp only[jy,List.getElem?_toArray,List.getElem?_cons_zero,Nat.add_zero]at t0 hkk;have hki:decide ((tk:Int)=(K:Int))=false:=decide_eq_false (by omega);have hkj:(tk==K)=false:=by rw[beq_eq_false_iff_ne];omega
    have hkl:decide (tk=K)=false:=decide_eq_false hkk;have hkm:((tk:Int) != (K:Int))=true:=by rw[bne_iff_ne];omega
    clear h';generalize ts.length=L at *;have hii:(i:Int)<(L:Int):=by omega
    go_enter Tryz.func31,Tryz.ntmps31
    go_wp2
    go_quiet (fail)
    go_wp2_with (first
     |((go_at_call 29)
       refine(hF _).mono ?_;rintro e w1 ⟨rfl,bad',k',hb',h',hk⟩;have hT2:zi w1 w.heap.size 79 #[.int .i64 0,.string ⟨#[]⟩,.int .i64 0,.int .i64 0]:=(hk.block _ hT.lt (λe=>by cases e;omega)).trans hT;have a0:=hT2.cell 0;have a1:=hT2.cell 1;have a2:=hT2.cell 2;have a3:=hT2.cell 3;have b0:=hT2.free 0;have b1:=hT2.free 1;have b2:=hT2.free 2;have b3:=hT2.free 3;(have lt2:=hT2.lt)))
    exact done w1 bad' k' _ hb' h' ⟨hk.os,hk.tape,hk.output,hk.size,hk.block⟩ rfl rfl
   ·clear hs hcase h hd0 h'
    generalize ts.length=L at *;have hii:¬(i:Int)<(L:Int):=by omega
    go_enter Tryz.func31,Tryz.ntmps31
    go_wp2
    go_quiet (fail)
    go_wp2_with (first
     |((go_at_call 29)
       refine(hF _).mono ?_;rintro e w1 ⟨rfl,bad',k',hb',h',hk⟩;have hT2:zi w1 w.heap.size 79 #[.int .i64 0,.string ⟨#[]⟩,.int .i64 0,.int .i64 0]:=(hk.block _ hT.lt (λe=>by cases e;omega)).trans hT;have a0:=hT2.cell 0;have a1:=hT2.cell 1;have a2:=hT2.cell 2;have a3:=hT2.cell 3;have b0:=hT2.free 0;have b1:=hT2.free 1;have b2:=hT2.free 2;have b3:=hT2.free 3;(have lt2:=hT2.lt)))
    exact done w1 bad' k' _ hb' h' ⟨hk.os,hk.tape,hk.output,hk.size,hk.block⟩ rfl rfl
  ·have hd:=hd0 bad hb
   have hd2:(bad==0)=false:=by simpa using hb
   have hd3:(bad != 0)=true:=by rw[bne,hd2];rfl
   clear hs hcase h hd0 h';generalize ts.length=L at *;go_enter Tryz.func31,Tryz.ntmps31
   go_wp2
   go_quiet (fail)
   go_wp2_with (first
    |((go_at_call 29)
      refine(hF _).mono ?_;rintro e w1 ⟨rfl,bad',k',hb',h',hk⟩;have hT2:zi w1 w.heap.size 79 #[.int .i64 0,.string ⟨#[]⟩,.int .i64 0,.int .i64 0]:=(hk.block _ hT.lt (λe=>by cases e;omega)).trans hT;have a0:=hT2.cell 0;have a1:=hT2.cell 1;have a2:=hT2.cell 2;have a3:=hT2.cell 3;have b0:=hT2.free 0;have b1:=hT2.free 1;have b2:=hT2.free 2;have b3:=hT2.free 3;(have lt2:=hT2.lt)))
   exact done w1 bad' k' _ hb' h' ⟨hk.os,hk.tape,hk.output,hk.size,hk.block⟩ rfl rfl
end
end Go.Proofs.YtgljdaakdpgpkaaGreatDoor
