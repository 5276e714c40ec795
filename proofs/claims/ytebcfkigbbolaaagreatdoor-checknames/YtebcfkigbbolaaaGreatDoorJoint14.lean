import Derived.Test.YtebcfkigbbolaaaGreatDoorJoint13
import Derived.Test.YtebcfkigbbolaaaGreatDoorJoint04
import Derived.Test.YtebcfkigbbolaaaGreatDoorJoint12
namespace Go.Proofs.YtebcfkigbbolaaaGreatDoor
set_option linter.unusedVariables false
set_option maxRecDepth 100000
set_option maxHeartbeats 40000000
section
open Go.ChangeShapes Go.WideShapes Go.ChangeAt Go.RowKit Go.MapKept
inductive ZA:Nd→Nd→Prop where
 |mk (o s:List UInt8) (n a:Int) (l l':List Nd):l.length=l'.length→(∀i (h:i<l.length) (h':i<l'.length),ZA l[i] l'[i])→ZA (.mk o s n a l) (.mk o (zs o s) n a l')
inductive Qs:Nd→Prop where
 |mk (o s:List UInt8) (n a:Int) (l:List Nd):(JQ o=true→s.length≤15)→(∀i (h:i<l.length),Qs l[i])→Qs (.mk o s n a l)
theorem Dq{n m:Nd}(h:ZA n m):Qs n→ZR n m:=by
 induction h with
 |mk o s n a l l' hl hk ih =>
  intro hs;cases hs with
  |mk _ _ _ _ _ h1 h2=>exact .mk o s n a l l' hl (λi h h'=>ih i h h' (h2 i h)) h1
theorem Qx{ty:TypeId}(w:World)(base:Nat)(l:List Nd)(v:Value)(hrow:jR w base l v)(hbase:base≤w.heap.size)(hlen:l.length≤100000)(n:Nd)(A:Option Addr)(L C:Nat)(hn:jW w (λg=>base≤g∧v.ownBlock≠some g) n.l (.slice A L C))(G:Nat)(hG:zh w G 24 (qa n (.slice A L C))):
 ∃A' C' w',(Builtin.append_ #[22,22] ty #[v,.slice (some ⟨G,0,none⟩) 1 1]).run Tryz.prog w= .ok (.slice A' (l.length+1) C') w'∧jR w' base (l++ [n]) (.slice A' (l.length+1) C')∧Below base w w':=by
 obtain⟨i0,hi,hz0,hz1,hz2⟩:=info_parts Tryz.infoNode;obtain⟨vs,e1,hown,hk⟩:=hrow
 have hnews:∀j u,(qa n (.slice A L C)).toList[j]?=some u→w.cell? ((⟨G,0,none⟩:Addr).add j)=some u:=by
  intro j u hj;have:=hG.cell j;rw[show(⟨G,0,none⟩:Addr).add j=⟨G,j,none⟩ by simp[Addr.add];omega];rw[this]
  simpa using hj
 obtain⟨v',w',hr,h2,h3,h4⟩:=run_append_own (P:=Tryz.prog) w base 22 ty 24 i0 _ 5 72 Tryz.underlying22 hi hz0 hz1 hz2 rfl (by decide) v l.length (JD l vs) hown ⟨G,0,none⟩ 1 1 (qa n (.slice A L C)).toList rfl hnews (Vm n A L C) (by unfold maxLen;omega) (by omega) hbase;have hwh:=xC (P:=Tryz.prog) Tryz.underlying22 hi hz0 hz1 (by decide) hown (ad:=⟨G,0,none⟩) (m:=1) (c:=1) (news:=(qa n (.slice A L C)).toList) rfl hnews (Vm n A L C) (by unfold maxLen;omega) (by rw[hz2];omega) (by decide) hr
 have keep:∀ {l':List Nd} {x:Value},jW w (λg=>base≤g∧v.ownBlock≠some g) l' x→jW w' (λg=>base≤g∧v'.ownBlock≠some g) l' x:=by
  intro l' x h
  have h5:jW w (λg=>(base≤g∧v.ownBlock≠some g)∧v'.ownBlock≠some g) l' x:=h.imp λg hg hlt=>⟨hg,by
   rcases hwh with e|e
   ·rw[e];exact hg.2
   ·rw[e];intro e';cases e';omega⟩
  exact(h5.keep (w':=w') λg o hg ho=>(h3.block g (Array.getElem?_eq_some_iff.1 ho).1 (λe=>hg.1.2 e.symm)).trans ho).mono λg hg=>⟨hg.1.1,hg.2⟩
 have hrow':jR w' base (l++ [n]) v':=by
  refine⟨vs++ [.slice A L C],by simp[e1],?_,?_⟩
  ·rw[JC l [n] vs _ e1,Yt,List.length_append]
   exact h2
  ·intro i h h'
   by_cases hi:i<l.length
   ·rw[List.getElem_append_left hi,List.getElem_append_left (by omega)]
    exact keep (hk i hi (by omega))
   ·have :i=l.length:=by simp at h;omega
    subst this;simp only[List.getElem_append_right (Nat.le_refl _),Nat.sub_self,List.getElem_cons_zero];have e2:(vs++ [Value.slice A L C])[l.length]'h'= .slice A L C:=by rw[List.getElem_append_right (by omega)];simp[e1]
    rw[e2];exact keep hn
 obtain⟨A',C',e'⟩:=hrow'.slice;rw[List.length_append,List.length_singleton]at e';subst e';exact⟨A',C',w',hr,hrow',Qy hown h3 hbase⟩
theorem yv{ops:Array Oper}{rest:List Oper}{o:Oper}{a:Act}{w:World}{Q:Exit→Act→World→Prop}(hgd:o.guard=none)(s x:Operand)
 (ho:o.op= .call { callee:= .builtin .append,args:=#[s,x],argTypes:=#[22,22] }) (base:Nat) (l:List Nd) (v:Value) (hs:a.eval s=v) (hrow:jR w base l v) (hbase:base≤w.heap.size) (hlen:l.length≤100000)
 (n:Nd) (A:Option Addr) (L C:Nat) (hn:jW w (λg=>base≤g∧v.ownBlock≠some g) n.l (.slice A L C)) (G:Nat) (hx:a.eval x= .slice (some ⟨G,0,none⟩) 1 1) (hG:zh w G 24 (qa n (.slice A L C))) (i:Nat) (hi:l.length=i)
 (h:∀A' C' w',jR w' base (l++ [n]) (.slice A' (i+1) C')→Below base w w'→wpList Tryz.prog ops Q rest (a.put o.dst (.slice A' (i+1) C')) w'):wpList Tryz.prog ops Q (o::rest) a w:=by
 subst hi;obtain⟨A',C',w',hr,h2,h3⟩:=Qx (ty:=o.type) w base l v hrow hbase hlen n A L C hn G hG;refine wpList_plain hgd λK hK=>?_
 unfold Oper.wp execOp;simp only[ho,resolve,invoke,builtin,Sem.run_bind,Sem.run_pure,Result.andThen_ok,List.map_toArray,List.map_cons,List.map_nil,hs,hx,hr];exact hK _ _ (h A' C' w' h2 h3)
theorem zZ{fn:Func}{R:Ending→World→Prop}{a:Act}{W:World}{s t g:Nat}{x0 x1 x2 x3 x4 y:Value}(hr:fn.results= #[.cell s 24,.tmp t])(hs:a.tmps[s]?.getD undef= .pointer (some ⟨g,0,none⟩))(ht:a.tmps[t]?.getD undef=y)(hH:zh W g 24 #[x0,x1,x2,x3,x4])(hd:a.defers= [])(h:R (.returned (.tuple #[.agg #[x0,x1,x2,x3,x4],y])) W):bodyPost Tryz.prog fn R .ret a W:=by
 have q0:=hH.cell 0;have q1:=hH.cell 1;have q2:=hH.cell 2;have q3:=hH.cell 3;have q4:=hH.cell 4;exact bodyPost_ret (by simp only[results,hr];simp[hs,ht,go_sem,q0,q1,q2,q3,q4]) hd h
def Fq(W:World)(n:Nd)(e:Ending)(w':World):Prop:=∃(m:Nd) (A:Option Addr) (C:Nat) (b:Bool),e= .returned (.tuple #[.agg (qa m (.slice A m.l.length C)),.bool b])∧jW w' (λg=>W.heap.size≤g) m.l (.slice A m.l.length C)∧ZA n m∧(b=true↔Qs n)∧Below W.heap.size W w'
structure DS (W wr:World) (n:Nd) (A:Option Addr) (L C:Nat) (i:Nat) (ms:List Nd) (v:Value) (b:Bool):Prop where
 len:ms.length=i
 nb:zh wr W.heap.size 24 #[.string (bs n.op),.string (bs n.s),.int .i64 n.n,.int .i64 n.a,.slice A L C]
 rb:zh wr (W.heap.size+1) 24 #[.string ⟨#[]⟩,.string ⟨#[]⟩,.int .i64 0,.int .i64 0,.slice none 0 0]
 mb:zh wr (W.heap.size+2) 24 #[.string (bs n.op),.string (bs n.s),.int .i64 n.n,.int .i64 n.a,v]
 row:jR wr (W.heap.size+3) ms v
 za:∀j (h:j<ms.length) (h':j<n.l.length),ZA n.l[j] ms[j]
 sh:b=true↔ ∀j (h:j<ms.length) (h':j<n.l.length),Qs n.l[j]
 bel:Below W.heap.size W wr
theorem DS.next{W wr w5 w6:World}{n m:Nd}{A:Option Addr}{L C i:Nat}{ms:List Nd}{v v6:Value}{b b5:Bool}(K:DS W wr n A L C i ms v b)(hi:i<n.l.length)(hb:Below wr.heap.size wr w5)(hr:jR w6 (W.heap.size+3) (ms++ [m]) v6)(h6:Below (W.heap.size+3) w5 w6)(hz:ZA n.l[i] m)(hs:b5=true↔Qs n.l[i]):
 DS W (w6.setCell ⟨W.heap.size+2,4,none⟩ v6) n A L C (i+1) (ms++ [m]) v6 (b&&b5):=by
 have l1:=K.nb.lt;have l2:=K.rb.lt;have l3:=K.mb.lt;have hsz:=hb.size;have B6:Below (W.heap.size+3) wr w6:=(hb.mono (by omega)).trans h6;refine⟨by simp[K.len],(K.nb.below B6 (by omega)).other (by show W.heap.size≠W.heap.size+2;omega) _,(K.rb.below B6 (by omega)).other (by show W.heap.size+1≠W.heap.size+2;omega) _,?_,?_,λj h h'=>?_,?_,?_⟩
 ·exact(K.mb.below B6 (by omega)).putP 4 v6
 ·obtain⟨vs,a1,a2,a3⟩:=hr
  have hk:∀g o,W.heap.size+3≤g→w6.heap[g]?=some o→(w6.setCell ⟨W.heap.size+2,4,none⟩ v6).heap[g]?=some o:=λg o hg ho=>(Below.heap_setCell w6 ⟨W.heap.size+2,4,none⟩ v6 g (by show g≠W.heap.size+2;omega)).trans ho
  exact⟨vs,a1,zG a2 (λg o e ho=>hk g o (qu a2 e).2 ho),λj h h'=>(a3 j h h').keep (λg o hg ho=>hk g o hg.1 ho)⟩
 ·by_cases hj:j<ms.length
  ·rw[List.getElem_append_left hj]
   exact K.za j hj h'
  ·have :j=i:=by simp at h;have:=K.len;omega
   subst this;rw[List.getElem_append_right (by have:=K.len;omega)]
   simpa using hz
 ·rw[Bool.and_eq_true,K.sh,hs]
  constructor
  ·intro e j h h'
   by_cases hj:j<ms.length
   ·exact e.1 j hj h'
   ·have :j=i:=by simp at h;have:=K.len;omega
    subst this;exact e.2
  ·intro e
   exact⟨λj h h'=>e j (by simp;omega) h',e i (by simp;have:=K.len;omega) hi⟩
 ·exact(K.bel.trans (B6.mono (by omega))).setCell (by show W.heap.size≤W.heap.size+2;omega) _
theorem DS.done{W wr:World}{n:Nd}{A:Option Addr}{L C:Nat}{ms:List Nd}{v:Value}{b:Bool}(K:DS W wr n A L C n.l.length ms v b):ZA n (.mk n.op (zs n.op n.s) n.n n.a ms)∧((b=true∧(JQ n.op=true→n.s.length≤15))↔Qs n):=by
 cases n with
 |mk o s x a l=>exact⟨.mk o s x a l ms K.len.symm (λi h h'=>K.za i h' h),⟨λe=> .mk o s x a l e.2 (λi hi=>K.sh.1 e.1 i (by have:=K.len;simp only[Nd.l]at this;omega) hi),λe=>by
  cases e with
  |mk _ _ _ _ _ h1 h2=>exact⟨K.sh.2 (λj h h'=>h2 j h'),h1⟩⟩⟩
theorem jR.apart2{w W:World}{base:Nat}{ms:List Nd}{v:Value}{l:List Nd}{u:Value}(h:jR w base ms v)(hb:Below w.heap.size w W)(hbase:base≤w.heap.size)(hn:jW W (λg=>w.heap.size≤g) l u):jR W base ms v∧jW W (λg=>base≤g∧v.ownBlock≠some g) l u∧base≤W.heap.size:=by
 obtain⟨vs,a1,a2,a3⟩:=h;have hlt:∀g,v.ownBlock=some g→g<w.heap.size:=λg e=>(qu a2 e).1
 refine⟨⟨vs,a1,zG a2 (λg o e ho=>(hb.block g (Array.getElem?_eq_some_iff.1 ho).1).trans ho),λj h h'=>(a3 j h h').keep (λg o _ ho=>(hb.block g (Array.getElem?_eq_some_iff.1 ho).1).trans ho)⟩,hn.mono λg hg=>⟨by omega,λe=>by have:=hlt g e;omega⟩,Nat.le_trans hbase hb.size⟩
theorem gN{W wr w':World}{ms:List Nd}{A6:Option Addr}{i C6:Nat}(hR:jR wr (W.heap.size+3) ms (.slice A6 i C6))(hk:∀g,W.heap.size+3≤g→w'.heap[g]?=wr.heap[g]?):jW w' (λg=>W.heap.size≤g) ms (.slice A6 i C6):=
 (hR.done.keep (λg o hg ho=>(hk g hg).trans ho)).mono λg hg=>by omega
theorem jd{W wr:World}{n:Nd}{ms:List Nd}{A6:Option Addr}{i C6:Nat}{b:Bool}(hD:ZA n (.mk n.op (zs n.op n.s) n.n n.a ms)∧((b=true∧(JQ n.op=true→n.s.length≤15))↔Qs n))(hR:jR wr (W.heap.size+3) ms (.slice A6 i C6))(hl:ms.length=i)(hB:Below W.heap.size W wr)(hit:JQ n.op=true)(c:Bool)(hc:c=true↔(b=true∧n.s.length≤15)):
 Fq W n (.returned (.tuple #[.agg #[.string (bs n.op),.string (bs (122::n.s)),.int .i64 n.n,.int .i64 n.a,.slice A6 i C6],.bool c])) (xu (wr.setCell ⟨W.heap.size+2,1,none⟩ (.string (bs (122::n.s)))) (W.heap.size+1) (.string (bs n.op)) (.string (bs (122::n.s))) (.int .i64 n.n) (.int .i64 n.a) (.slice A6 i C6)):=by
 subst hl;have hz:zs n.op n.s=122::n.s:=if_pos hit;rw[hz]at hD;refine⟨.mk n.op (122::n.s) n.n n.a ms,A6,C6,c,rfl,gN hR (λg hg=>?_),hD.1,by rw[hc,←hD.2];exact⟨λe=>⟨e.1,λ_=>e.2⟩,λe=>⟨e.1,e.2 hit⟩⟩,Xw (hB.setCell (by show W.heap.size≤W.heap.size+2;omega) _) (Nat.le_succ _) _ _ _ _ _⟩;exact(Yp _ (by omega) _ _ _ _ _).trans (Below.heap_setCell wr ⟨W.heap.size+2,1,none⟩ _ g (by show g≠W.heap.size+2;omega))
theorem kG{W wr:World}{n:Nd}{ms:List Nd}{A6:Option Addr}{i C6:Nat}{b:Bool}(hD:ZA n (.mk n.op (zs n.op n.s) n.n n.a ms)∧((b=true∧(JQ n.op=true→n.s.length≤15))↔Qs n))(hR:jR wr (W.heap.size+3) ms (.slice A6 i C6))(hl:ms.length=i)(hB:Below W.heap.size W wr)(hno:JQ n.op=false)(c:Bool)(hc:b=c):
 Fq W n (.returned (.tuple #[.agg #[.string (bs n.op),.string (bs n.s),.int .i64 n.n,.int .i64 n.a,.slice A6 i C6],.bool c])) (xu wr (W.heap.size+1) (.string (bs n.op)) (.string (bs n.s)) (.int .i64 n.n) (.int .i64 n.a) (.slice A6 i C6)):=by
 subst hl hc;have hz:zs n.op n.s=n.s:=if_neg (by rw[hno];decide);rw[hz]at hD;refine⟨.mk n.op n.s n.n n.a ms,A6,C6,b,rfl,gN hR (λg hg=>Yp _ (by omega) _ _ _ _ _),hD.1,by rw[←hD.2];exact⟨λe=>⟨e,λq=>by rw[hno]at q;cases q⟩,λe=>e.1⟩,Xw hB (Nat.le_succ _) _ _ _ _ _⟩
theorem D9{o:List UInt8}(h:JQ o=false):(o== [100,101,118,105,99,101])=false∧(o== [106,111,117,114,110,97,108])=false∧(o== [107,101,121])=false∧(o== [114,111,111,116])=false∧(o== [118,111,108,117,109,101])=false∧(o== [101,120,112,111,114,116])=false∧(o== [117,115,101])=false∧(o== [110,97,109,101])=false:=by
 unfold JQ at h;simp only[Bool.or_eq_false_iff]at h;obtain⟨⟨⟨⟨⟨⟨⟨h1,h2⟩,h3⟩,h4⟩,h5⟩,h6⟩,h7⟩,h8⟩:=h;exact⟨h1,h2,h3,h4,h5,h6,h7,h8⟩
theorem uQ{w:World}{l:List Nd}{v:Value}(h:Rd w l v):∀(n:Nd) (A:Option Addr) (C:Nat) (W:World),n.l=l→v= .slice A l.length C→Below w.heap.size w W→xN n→Qh n→Calls Tryz.prog 20 #[xh n A C] W (Fq W n):=by
 induction h with
 |mk l vs A0 C0 h1 h2 h3 h4 h5 h6 ih =>
  intro n A C W hl hv hW hlim hsml;simp only[Value.slice.injEq]at hv;obtain⟨rfl,-,rfl⟩:=hv;subst hl
  have hkid:∀k (hk:k<n.l.length),∃g off Ak Ck,A0=some ⟨g,off,none⟩∧g<w.heap.size∧QV w g (off+k*5) n.l[k] Ak Ck∧(∀W',Below w.heap.size w W'→Calls Tryz.prog 20 #[xh n.l[k] Ak Ck] W' (Fq W' n.l[k])):=λk hk=>by
   obtain⟨g,off,e,hg,hc⟩:=h4 k hk (by omega);obtain⟨Ak,Ck,e2,_,_⟩:=(h5 k hk (by omega)).slice;rw[e2]at hc;exact⟨g,off,Ak,Ck,e,hg,hc,λW' hW'=>ih k hk (by omega) n.l[k] Ak Ck W' rfl e2 hW' (hlim.all _ (List.getElem_mem hk)) (hsml.l _ (List.getElem_mem hk))⟩
  have hs1000:=hsml.s;have h80:=hlim.len;unfold xh
  obtain⟨L,hL⟩:∃L,L=n.l.length:=⟨_,rfl⟩
  have HL:=zt hL;rw[←hL]at h2 h80 ⊢;have hLm:L≤9223372036854775807:=by omega
  obtain⟨V0,hV0⟩:∃V,V=((W.alloc (.cells #[.string (bs n.op),.string (bs n.s),.int .i64 n.n,.int .i64 n.a,.slice A0 L C0] 24)).alloc (.cells #[.string ⟨#[]⟩,.string ⟨#[]⟩,.int .i64 0,.int .i64 0,.slice none 0 0] 24)).alloc (.cells #[.string (bs n.op),.string (bs n.s),.int .i64 n.n,.int .i64 n.a,.slice none 0 0] 24):=⟨_,rfl⟩
  have M0:zh V0 (W.heap.size+2) 24 #[.string (bs n.op),.string (bs n.s),.int .i64 n.n,.int .i64 n.a,.slice none 0 0]:=by rw[hV0];exact zh.new_at (by simp)
  have R0:zh V0 (W.heap.size+1) 24 #[.string ⟨#[]⟩,.string ⟨#[]⟩,.int .i64 0,.int .i64 0,.slice none 0 0]:=by rw[hV0];exact(zh.new_at (by simp)).alloc _
  have N0:zh V0 W.heap.size 24 #[.string (bs n.op),.string (bs n.s),.int .i64 n.n,.int .i64 n.a,.slice A0 L C0]:=by rw[hV0];exact((zh.new W _ _).alloc _).alloc _
  have B0:Below W.heap.size W V0:=by rw[hV0];exact(jL W _ _).alloc (by simp;omega) _
  have HK0:=zt (show DS W V0 n A0 L C0 0 [] (.slice none 0 0) true from
   ⟨rfl,N0,R0,M0,jR.nil _ _,λj h=>absurd h (Nat.not_lt_zero _),⟨λ_ j h=>absurd h (Nat.not_lt_zero _),λ_=>rfl⟩,B0⟩)
  have HV:=zt hV0;have HW:=zt hW;have HKID:=zt hkid;have HE:=zt (show(⟨#[122]⟩:ByteArray)++bs n.s=bs (122::n.s) by rw[show(⟨#[122]⟩:ByteArray)=bs [122]from rfl,Gl];rfl);have hzs:(bs n.s).size≤1000:=by rw[zx];exact hs1000
  have hzz:(bs (122::n.s)).size=n.s.length+1:=by rw[zx];rfl
  have hoT:=zr n.op;clear hkid h1 h2 h3 h4 h5 h6 ih hL hW hV0 hlim hsml M0 R0 N0 B0;go_enter Tryz.func20,Tryz.ntmps20
  go_wp2
  rw[←HV.out]
  go_loopw [4,6] (λzb zi wr=>∃(i:Nat) (ms:List Nd) (A6:Option Addr) (C6:Nat) (b:Bool),zb= .bool b∧zi= .int .i64 (i:Nat)∧i≤L∧DS W wr n A0 L C0 i ms (.slice A6 i C6) b) (λ_ z _=>L-(intOf z).toNat)
  case atStart=>exact⟨0,[],none,0,true,rfl,rfl,Nat.zero_le _,HK0.out⟩
  case round =>
   obtain⟨i,ms,A6,C6,b,rfl,rfl,hi,K⟩:=hrel;obtain⟨p0,p1,p2,p3,p4⟩:=UM K.nb;have pl:=K.nb.lt;by_cases hlt:i<L
   ·have hil:i<n.l.length:=by rw[←HL.out];exact hlt
    have hint:(i:Int)<(L:Int):=by omega
    obtain⟨g,off,Ak,Ck,rfl,hg,hnd,hcl⟩:=HKID.out i hil;have hww:=HW.out.trans (K.bel.mono HW.out.size);have hc:=hcl wr hww;have HQ:=zt (hnd.grow hww hg);have HNX:=zt (λm w5 w6 v6 b5=>K.next (m:=m) (w5:=w5) (w6:=w6) (v6:=v6) (b5:=b5) hil);have HRW:=zt K.row;have HMB:=zt K.mb;have HLN:=zt K.len;have qb:=K.mb.cell 4;have ql:=K.mb.lt;unfold Fq at hc;generalize n.l[i]=x at *;clear hcl hnd K;cases b with
    |true =>
     go_wp2_with (first
      |(refine zg 22 rfl ?_;refine ze (some 22) (.pointer (some ⟨g,off+i*5,none⟩)) rfl (by rfl) (qr _ _ rfl g off i _ C0 rfl rfl (by omega) _) ?_)
      |(refine zg 23 rfl ?_;refine ze (some 23) (xh x Ak Ck) rfl (by rfl) (qz _ rfl g _ rfl _ HQ.out) ?_)
      |((go_at_call 20)
        refine hc.mono ?_;rintro e w5 ⟨m5,A5,C5,b5,rfl,N5,z5,s5,bw5⟩;have Z5:=zt z5;have S5:=zt s5;clear z5 s5;unfold qa;have X5:=zh.new w5 24 #[.string (bs m5.op),.string (bs m5.s),.int .i64 m5.n,.int .i64 m5.a,.slice A5 m5.l.length C5];obtain⟨x0,x1,x2,x3,x4⟩:=UM X5;have M5:=HMB.out.below bw5 HMB.out.lt;have y4:=M5.cell 4;have yf:=M5.free 4;have yl:=M5.lt;have bw6:=(bw5.alloc bw5.size (.cells #[.string (bs m5.op),.string (bs m5.s),.int .i64 m5.n,.int .i64 m5.a,.slice A5 m5.l.length C5] 24)).alloc (by have:=bw5.size;simp;omega) (.cells #[.string (bs m5.op),.string (bs m5.s),.int .i64 m5.n,.int .i64 m5.a,.slice A5 m5.l.length C5] 24);have R5:=HRW.out.done;(have HR6:=zt (HRW.out.apart2 bw6 (by have:=HMB.out.lt;omega) (N5.keep (λg' o' _ ho=>((jL w5 _ _).block g' (Array.getElem?_eq_some_iff.1 ho).1).trans ho)))))
      |((refine zg 35 rfl ?_)
        refine yv rfl _ _ rfl (W.heap.size+3) ms _ rfl HR6.out.1 HR6.out.2.2 (by rw[HLN.out];omega) m5 A5 _ C5 HR6.out.2.1 (w5.heap.size+1) rfl (zh.new_at (by simp)) i HLN.out ?_;intro A7 C7 w7 R7 B7;have HR7:=zt R7;have u6:=((M5.alloc (.cells #[.string (bs m5.op),.string (bs m5.s),.int .i64 m5.n,.int .i64 m5.a,.slice A5 m5.l.length C5] 24)).alloc (.cells #[.string (bs m5.op),.string (bs m5.s),.int .i64 m5.n,.int .i64 m5.a,.slice A5 m5.l.length C5] 24)).below B7 (by omega);have c6:=u6.cell 4;have v6:=u6.free 4;have y6:=u6.lt;(clear R7)))
     go_roundw
     case rel=>exact⟨i+1,ms++ [m5],A7,C7,true&&b5,by cases b5<;>rfl,by go_num,by omega,HNX.out m5 _ w7 _ b5 bw6 HR7.out B7 Z5.out S5.out⟩
     case measure=>simp[intOf];omega
    |false =>
     go_wp2_with (first
      |(refine zg 22 rfl ?_;refine ze (some 22) (.pointer (some ⟨g,off+i*5,none⟩)) rfl (by rfl) (qr _ _ rfl g off i _ C0 rfl rfl (by omega) _) ?_)
      |(refine zg 23 rfl ?_;refine ze (some 23) (xh x Ak Ck) rfl (by rfl) (qz _ rfl g _ rfl _ HQ.out) ?_)
      |((go_at_call 20)
        refine hc.mono ?_;rintro e w5 ⟨m5,A5,C5,b5,rfl,N5,z5,s5,bw5⟩;have Z5:=zt z5;have S5:=zt s5;clear z5 s5;unfold qa;have X5:=zh.new w5 24 #[.string (bs m5.op),.string (bs m5.s),.int .i64 m5.n,.int .i64 m5.a,.slice A5 m5.l.length C5];obtain⟨x0,x1,x2,x3,x4⟩:=UM X5;have M5:=HMB.out.below bw5 HMB.out.lt;have y4:=M5.cell 4;have yf:=M5.free 4;have yl:=M5.lt;have bw6:=(bw5.alloc bw5.size (.cells #[.string (bs m5.op),.string (bs m5.s),.int .i64 m5.n,.int .i64 m5.a,.slice A5 m5.l.length C5] 24)).alloc (by have:=bw5.size;simp;omega) (.cells #[.string (bs m5.op),.string (bs m5.s),.int .i64 m5.n,.int .i64 m5.a,.slice A5 m5.l.length C5] 24);have R5:=HRW.out.done;(have HR6:=zt (HRW.out.apart2 bw6 (by have:=HMB.out.lt;omega) (N5.keep (λg' o' _ ho=>((jL w5 _ _).block g' (Array.getElem?_eq_some_iff.1 ho).1).trans ho)))))
      |((refine zg 35 rfl ?_)
        refine yv rfl _ _ rfl (W.heap.size+3) ms _ rfl HR6.out.1 HR6.out.2.2 (by rw[HLN.out];omega) m5 A5 _ C5 HR6.out.2.1 (w5.heap.size+1) rfl (zh.new_at (by simp)) i HLN.out ?_;intro A7 C7 w7 R7 B7;have HR7:=zt R7;have u6:=((M5.alloc (.cells #[.string (bs m5.op),.string (bs m5.s),.int .i64 m5.n,.int .i64 m5.a,.slice A5 m5.l.length C5] 24)).alloc (.cells #[.string (bs m5.op),.string (bs m5.s),.int .i64 m5.n,.int .i64 m5.a,.slice A5 m5.l.length C5] 24)).below B7 (by omega);have c6:=u6.cell 4;have v6:=u6.free 4;have y6:=u6.lt;(clear R7)))
     go_roundw
     case rel=>exact⟨i+1,ms++ [m5],A7,C7,false&&b5,by cases b5<;>rfl,by go_num,by omega,HNX.out m5 _ w7 _ b5 bw6 HR7.out B7 Z5.out S5.out⟩
     case measure=>simp[intOf];omega
   ·obtain rfl:L=i:=by omega
    have HD:=zt (by
     have K':=K;rw[HL.out]at K'
     exact K'.done)
    obtain⟨b0,hb0⟩:∃b0,b0=b:=⟨_,rfl⟩
    have HB0:=zt hb0;rw[←hb0]at HD;clear hb0;have HLN:=zt K.len;have HRW:=zt K.row;have HB:=zt K.bel;have HRB:=zt K.rb;have HMB:=zt K.mb;obtain⟨u0,u1,u2,u3,u4⟩:=UM K.rb;obtain⟨t0,t1,t2,t3,t4⟩:=UM K.mb;have ul:=K.rb.lt;have tl:=K.mb.lt;have fu0:=K.rb.free 0;have fu1:=K.rb.free 1;have fu2:=K.rb.free 2;have fu3:=K.rb.free 3;have fu4:=K.rb.free 4;have ft1:=K.mb.free 1;clear K;by_cases hno:JQ n.op=false
    ·obtain⟨f1,f2,f3,f4,f5,f6,f7,f8⟩:=D9 hno
     cases b with
     |true =>
      go_wp2
      refine zZ rfl rfl rfl (HRB.out.set5 _ _ _ _ _) rfl ?_;exact kG HD.out HRW.out HLN.out HB.out hno true HB0.out
     |false =>
      go_wp2
      refine zZ rfl rfl rfl (HRB.out.set5 _ _ _ _ _) rfl ?_;exact kG HD.out HRW.out HLN.out HB.out hno false HB0.out
    ·have hit:JQ n.op=true:=by simpa using hno
     clear hno;by_cases e0:n.op=zd
     ·have f0:(n.op== [100,101,118,105,99,101])=true:=by rw[e0];decide
      clear e0;cases b with
      |true =>
       by_cases hle:n.s.length+1≤16
       ·have hl1:((n.s.length:Int)+1≤16):=by omega
        go_wp2_with (first
         |(refine zg 50 rfl ?_;refine ze (some 50) (.string (bs (122::n.s))) rfl rfl (by rw[←HE.out];exact zO _ _ rfl _ _ rfl rfl (by show 1+_≤_;omega) _) ?_))
        refine zZ rfl rfl rfl ((HRB.out.other (by show W.heap.size+1≠W.heap.size+2;omega) _).set5 _ _ _ _ _) rfl ?_;exact jd HD.out HRW.out HLN.out HB.out hit true ⟨λ_=>⟨HB0.out,by omega⟩,λ_=>rfl⟩
       ·have hl1:¬((n.s.length:Int)+1≤16):=by omega
        go_wp2_with (first
         |(refine zg 50 rfl ?_;refine ze (some 50) (.string (bs (122::n.s))) rfl rfl (by rw[←HE.out];exact zO _ _ rfl _ _ rfl rfl (by show 1+_≤_;omega) _) ?_))
        refine zZ rfl rfl rfl ((HRB.out.other (by show W.heap.size+1≠W.heap.size+2;omega) _).set5 _ _ _ _ _) rfl ?_;exact jd HD.out HRW.out HLN.out HB.out hit false ⟨λe=>(by cases e),λe=>(by omega)⟩
      |false =>
       go_wp2_with (first
        |(refine zg 50 rfl ?_;refine ze (some 50) (.string (bs (122::n.s))) rfl rfl (by rw[←HE.out];exact zO _ _ rfl _ _ rfl rfl (by show 1+_≤_;omega) _) ?_))
       refine zZ rfl rfl rfl ((HRB.out.other (by show W.heap.size+1≠W.heap.size+2;omega) _).set5 _ _ _ _ _) rfl ?_;exact jd HD.out HRW.out HLN.out HB.out hit false ⟨λe=>(by cases e),λe=>absurd (HB0.out.symm.trans e.1) (by decide)⟩
     have f0:(n.op== [100,101,118,105,99,101])=false:=by rw[beq_eq_false_iff_ne];exact e0
     by_cases e1:n.op=zm
     ·have f1:(n.op== [106,111,117,114,110,97,108])=true:=by rw[e1];decide
      clear e1;cases b with
      |true =>
       by_cases hle:n.s.length+1≤16
       ·have hl1:((n.s.length:Int)+1≤16):=by omega
        go_wp2_with (first
         |(refine zg 50 rfl ?_;refine ze (some 50) (.string (bs (122::n.s))) rfl rfl (by rw[←HE.out];exact zO _ _ rfl _ _ rfl rfl (by show 1+_≤_;omega) _) ?_))
        refine zZ rfl rfl rfl ((HRB.out.other (by show W.heap.size+1≠W.heap.size+2;omega) _).set5 _ _ _ _ _) rfl ?_;exact jd HD.out HRW.out HLN.out HB.out hit true ⟨λ_=>⟨HB0.out,by omega⟩,λ_=>rfl⟩
       ·have hl1:¬((n.s.length:Int)+1≤16):=by omega
        go_wp2_with (first
         |(refine zg 50 rfl ?_;refine ze (some 50) (.string (bs (122::n.s))) rfl rfl (by rw[←HE.out];exact zO _ _ rfl _ _ rfl rfl (by show 1+_≤_;omega) _) ?_))
        refine zZ rfl rfl rfl ((HRB.out.other (by show W.heap.size+1≠W.heap.size+2;omega) _).set5 _ _ _ _ _) rfl ?_;exact jd HD.out HRW.out HLN.out HB.out hit false ⟨λe=>(by cases e),λe=>(by omega)⟩
      |false =>
       go_wp2_with (first
        |(refine zg 50 rfl ?_;refine ze (some 50) (.string (bs (122::n.s))) rfl rfl (by rw[←HE.out];exact zO _ _ rfl _ _ rfl rfl (by show 1+_≤_;omega) _) ?_))
       refine zZ rfl rfl rfl ((HRB.out.other (by show W.heap.size+1≠W.heap.size+2;omega) _).set5 _ _ _ _ _) rfl ?_;exact jd HD.out HRW.out HLN.out HB.out hit false ⟨λe=>(by cases e),λe=>absurd (HB0.out.symm.trans e.1) (by decide)⟩
     have f1:(n.op== [106,111,117,114,110,97,108])=false:=by rw[beq_eq_false_iff_ne];exact e1
     by_cases e2:n.op=qo
     ·have f2:(n.op== [107,101,121])=true:=by rw[e2];decide
      clear e2;cases b with
      |true =>
       by_cases hle:n.s.length+1≤16
       ·have hl1:((n.s.length:Int)+1≤16):=by omega
        go_wp2_with (first
         |(refine zg 50 rfl ?_;refine ze (some 50) (.string (bs (122::n.s))) rfl rfl (by rw[←HE.out];exact zO _ _ rfl _ _ rfl rfl (by show 1+_≤_;omega) _) ?_))
        refine zZ rfl rfl rfl ((HRB.out.other (by show W.heap.size+1≠W.heap.size+2;omega) _).set5 _ _ _ _ _) rfl ?_;exact jd HD.out HRW.out HLN.out HB.out hit true ⟨λ_=>⟨HB0.out,by omega⟩,λ_=>rfl⟩
       ·have hl1:¬((n.s.length:Int)+1≤16):=by omega
        go_wp2_with (first
         |(refine zg 50 rfl ?_;refine ze (some 50) (.string (bs (122::n.s))) rfl rfl (by rw[←HE.out];exact zO _ _ rfl _ _ rfl rfl (by show 1+_≤_;omega) _) ?_))
        refine zZ rfl rfl rfl ((HRB.out.other (by show W.heap.size+1≠W.heap.size+2;omega) _).set5 _ _ _ _ _) rfl ?_;exact jd HD.out HRW.out HLN.out HB.out hit false ⟨λe=>(by cases e),λe=>(by omega)⟩
      |false =>
       go_wp2_with (first
        |(refine zg 50 rfl ?_;refine ze (some 50) (.string (bs (122::n.s))) rfl rfl (by rw[←HE.out];exact zO _ _ rfl _ _ rfl rfl (by show 1+_≤_;omega) _) ?_))
       refine zZ rfl rfl rfl ((HRB.out.other (by show W.heap.size+1≠W.heap.size+2;omega) _).set5 _ _ _ _ _) rfl ?_;exact jd HD.out HRW.out HLN.out HB.out hit false ⟨λe=>(by cases e),λe=>absurd (HB0.out.symm.trans e.1) (by decide)⟩
     have f2:(n.op== [107,101,121])=false:=by rw[beq_eq_false_iff_ne];exact e2
     by_cases e3:n.op=zQ
     ·have f3:(n.op== [114,111,111,116])=true:=by rw[e3];decide
      clear e3;cases b with
      |true =>
       by_cases hle:n.s.length+1≤16
       ·have hl1:((n.s.length:Int)+1≤16):=by omega
        go_wp2_with (first
         |(refine zg 50 rfl ?_;refine ze (some 50) (.string (bs (122::n.s))) rfl rfl (by rw[←HE.out];exact zO _ _ rfl _ _ rfl rfl (by show 1+_≤_;omega) _) ?_))
        refine zZ rfl rfl rfl ((HRB.out.other (by show W.heap.size+1≠W.heap.size+2;omega) _).set5 _ _ _ _ _) rfl ?_;exact jd HD.out HRW.out HLN.out HB.out hit true ⟨λ_=>⟨HB0.out,by omega⟩,λ_=>rfl⟩
       ·have hl1:¬((n.s.length:Int)+1≤16):=by omega
        go_wp2_with (first
         |(refine zg 50 rfl ?_;refine ze (some 50) (.string (bs (122::n.s))) rfl rfl (by rw[←HE.out];exact zO _ _ rfl _ _ rfl rfl (by show 1+_≤_;omega) _) ?_))
        refine zZ rfl rfl rfl ((HRB.out.other (by show W.heap.size+1≠W.heap.size+2;omega) _).set5 _ _ _ _ _) rfl ?_;exact jd HD.out HRW.out HLN.out HB.out hit false ⟨λe=>(by cases e),λe=>(by omega)⟩
      |false =>
       go_wp2_with (first
        |(refine zg 50 rfl ?_;refine ze (some 50) (.string (bs (122::n.s))) rfl rfl (by rw[←HE.out];exact zO _ _ rfl _ _ rfl rfl (by show 1+_≤_;omega) _) ?_))
       refine zZ rfl rfl rfl ((HRB.out.other (by show W.heap.size+1≠W.heap.size+2;omega) _).set5 _ _ _ _ _) rfl ?_;exact jd HD.out HRW.out HLN.out HB.out hit false ⟨λe=>(by cases e),λe=>absurd (HB0.out.symm.trans e.1) (by decide)⟩
     have f3:(n.op== [114,111,111,116])=false:=by rw[beq_eq_false_iff_ne];exact e3
     by_cases e4:n.op=zv
     ·have f4:(n.op== [118,111,108,117,109,101])=true:=by rw[e4];decide
      clear e4;cases b with
      |true =>
       by_cases hle:n.s.length+1≤16
       ·have hl1:((n.s.length:Int)+1≤16):=by omega
        go_wp2_with (first
         |(refine zg 50 rfl ?_;refine ze (some 50) (.string (bs (122::n.s))) rfl rfl (by rw[←HE.out];exact zO _ _ rfl _ _ rfl rfl (by show 1+_≤_;omega) _) ?_))
        refine zZ rfl rfl rfl ((HRB.out.other (by show W.heap.size+1≠W.heap.size+2;omega) _).set5 _ _ _ _ _) rfl ?_;exact jd HD.out HRW.out HLN.out HB.out hit true ⟨λ_=>⟨HB0.out,by omega⟩,λ_=>rfl⟩
       ·have hl1:¬((n.s.length:Int)+1≤16):=by omega
        go_wp2_with (first
         |(refine zg 50 rfl ?_;refine ze (some 50) (.string (bs (122::n.s))) rfl rfl (by rw[←HE.out];exact zO _ _ rfl _ _ rfl rfl (by show 1+_≤_;omega) _) ?_))
        refine zZ rfl rfl rfl ((HRB.out.other (by show W.heap.size+1≠W.heap.size+2;omega) _).set5 _ _ _ _ _) rfl ?_;exact jd HD.out HRW.out HLN.out HB.out hit false ⟨λe=>(by cases e),λe=>(by omega)⟩
      |false =>
       go_wp2_with (first
        |(refine zg 50 rfl ?_;refine ze (some 50) (.string (bs (122::n.s))) rfl rfl (by rw[←HE.out];exact zO _ _ rfl _ _ rfl rfl (by show 1+_≤_;omega) _) ?_))
       refine zZ rfl rfl rfl ((HRB.out.other (by show W.heap.size+1≠W.heap.size+2;omega) _).set5 _ _ _ _ _) rfl ?_;exact jd HD.out HRW.out HLN.out HB.out hit false ⟨λe=>(by cases e),λe=>absurd (HB0.out.symm.trans e.1) (by decide)⟩
     have f4:(n.op== [118,111,108,117,109,101])=false:=by rw[beq_eq_false_iff_ne];exact e4
     by_cases e5:n.op=zM
     ·have f5:(n.op== [101,120,112,111,114,116])=true:=by rw[e5];decide
      clear e5;cases b with
      |true =>
       by_cases hle:n.s.length+1≤16
       ·have hl1:((n.s.length:Int)+1≤16):=by omega
        go_wp2_with (first
         |(refine zg 50 rfl ?_;refine ze (some 50) (.string (bs (122::n.s))) rfl rfl (by rw[←HE.out];exact zO _ _ rfl _ _ rfl rfl (by show 1+_≤_;omega) _) ?_))
        refine zZ rfl rfl rfl ((HRB.out.other (by show W.heap.size+1≠W.heap.size+2;omega) _).set5 _ _ _ _ _) rfl ?_;exact jd HD.out HRW.out HLN.out HB.out hit true ⟨λ_=>⟨HB0.out,by omega⟩,λ_=>rfl⟩
       ·have hl1:¬((n.s.length:Int)+1≤16):=by omega
        go_wp2_with (first
         |(refine zg 50 rfl ?_;refine ze (some 50) (.string (bs (122::n.s))) rfl rfl (by rw[←HE.out];exact zO _ _ rfl _ _ rfl rfl (by show 1+_≤_;omega) _) ?_))
        refine zZ rfl rfl rfl ((HRB.out.other (by show W.heap.size+1≠W.heap.size+2;omega) _).set5 _ _ _ _ _) rfl ?_;exact jd HD.out HRW.out HLN.out HB.out hit false ⟨λe=>(by cases e),λe=>(by omega)⟩
      |false =>
       go_wp2_with (first
        |(refine zg 50 rfl ?_;refine ze (some 50) (.string (bs (122::n.s))) rfl rfl (by rw[←HE.out];exact zO _ _ rfl _ _ rfl rfl (by show 1+_≤_;omega) _) ?_))
       refine zZ rfl rfl rfl ((HRB.out.other (by show W.heap.size+1≠W.heap.size+2;omega) _).set5 _ _ _ _ _) rfl ?_;exact jd HD.out HRW.out HLN.out HB.out hit false ⟨λe=>(by cases e),λe=>absurd (HB0.out.symm.trans e.1) (by decide)⟩
     have f5:(n.op== [101,120,112,111,114,116])=false:=by rw[beq_eq_false_iff_ne];exact e5
     by_cases e6:n.op=jE
     ·have f6:(n.op== [117,115,101])=true:=by rw[e6];decide
      clear e6;cases b with
      |true =>
       by_cases hle:n.s.length+1≤16
       ·have hl1:((n.s.length:Int)+1≤16):=by omega
        go_wp2_with (first
         |(refine zg 50 rfl ?_;refine ze (some 50) (.string (bs (122::n.s))) rfl rfl (by rw[←HE.out];exact zO _ _ rfl _ _ rfl rfl (by show 1+_≤_;omega) _) ?_))
        refine zZ rfl rfl rfl ((HRB.out.other (by show W.heap.size+1≠W.heap.size+2;omega) _).set5 _ _ _ _ _) rfl ?_;exact jd HD.out HRW.out HLN.out HB.out hit true ⟨λ_=>⟨HB0.out,by omega⟩,λ_=>rfl⟩
       ·have hl1:¬((n.s.length:Int)+1≤16):=by omega
        go_wp2_with (first
         |(refine zg 50 rfl ?_;refine ze (some 50) (.string (bs (122::n.s))) rfl rfl (by rw[←HE.out];exact zO _ _ rfl _ _ rfl rfl (by show 1+_≤_;omega) _) ?_))
        refine zZ rfl rfl rfl ((HRB.out.other (by show W.heap.size+1≠W.heap.size+2;omega) _).set5 _ _ _ _ _) rfl ?_;exact jd HD.out HRW.out HLN.out HB.out hit false ⟨λe=>(by cases e),λe=>(by omega)⟩
      |false =>
       go_wp2_with (first
        |(refine zg 50 rfl ?_;refine ze (some 50) (.string (bs (122::n.s))) rfl rfl (by rw[←HE.out];exact zO _ _ rfl _ _ rfl rfl (by show 1+_≤_;omega) _) ?_))
       refine zZ rfl rfl rfl ((HRB.out.other (by show W.heap.size+1≠W.heap.size+2;omega) _).set5 _ _ _ _ _) rfl ?_;exact jd HD.out HRW.out HLN.out HB.out hit false ⟨λe=>(by cases e),λe=>absurd (HB0.out.symm.trans e.1) (by decide)⟩
     have f6:(n.op== [117,115,101])=false:=by rw[beq_eq_false_iff_ne];exact e6
     by_cases e7:n.op=qZ
     ·have f7:(n.op== [110,97,109,101])=true:=by rw[e7];decide
      clear e7;cases b with
      |true =>
       by_cases hle:n.s.length+1≤16
       ·have hl1:((n.s.length:Int)+1≤16):=by omega
        go_wp2_with (first
         |(refine zg 50 rfl ?_;refine ze (some 50) (.string (bs (122::n.s))) rfl rfl (by rw[←HE.out];exact zO _ _ rfl _ _ rfl rfl (by show 1+_≤_;omega) _) ?_))
        refine zZ rfl rfl rfl ((HRB.out.other (by show W.heap.size+1≠W.heap.size+2;omega) _).set5 _ _ _ _ _) rfl ?_;exact jd HD.out HRW.out HLN.out HB.out hit true ⟨λ_=>⟨HB0.out,by omega⟩,λ_=>rfl⟩
       ·have hl1:¬((n.s.length:Int)+1≤16):=by omega
        go_wp2_with (first
         |(refine zg 50 rfl ?_;refine ze (some 50) (.string (bs (122::n.s))) rfl rfl (by rw[←HE.out];exact zO _ _ rfl _ _ rfl rfl (by show 1+_≤_;omega) _) ?_))
        refine zZ rfl rfl rfl ((HRB.out.other (by show W.heap.size+1≠W.heap.size+2;omega) _).set5 _ _ _ _ _) rfl ?_;exact jd HD.out HRW.out HLN.out HB.out hit false ⟨λe=>(by cases e),λe=>(by omega)⟩
      |false =>
       go_wp2_with (first
        |(refine zg 50 rfl ?_;refine ze (some 50) (.string (bs (122::n.s))) rfl rfl (by rw[←HE.out];exact zO _ _ rfl _ _ rfl rfl (by show 1+_≤_;omega) _) ?_))
       refine zZ rfl rfl rfl ((HRB.out.other (by show W.heap.size+1≠W.heap.size+2;omega) _).set5 _ _ _ _ _) rfl ?_;exact jd HD.out HRW.out HLN.out HB.out hit false ⟨λe=>(by cases e),λe=>absurd (HB0.out.symm.trans e.1) (by decide)⟩
     have f7:(n.op== [110,97,109,101])=false:=by rw[beq_eq_false_iff_ne];exact e7
     exfalso;unfold JQ at hit;simp only[Bool.or_eq_true,beq_iff_eq]at hit;rcases hit with((((((h|h)|h)|h)|h)|h)|h)|h
     ·exact e0 h
     ·exact e1 h
     ·exact e2 h
     ·exact e3 h
     ·exact e4 h
     ·exact e5 h
     ·exact e6 h
     ·exact e7 h
theorem FS(n:Nd)(A:Option Addr)(C:Nat)(W:World)(h:j3 W n A C)(hl:xN n)(hs:Qh n):Calls Tryz.prog 20 #[.agg (qa n (.slice A n.l.length C))] W (Fq W n):=uQ h.rd n A C W rfl rfl (Below.refl _ _) hl hs
end
section
def U7(f:Nat)(n:Nd)(q:List Tk):Prop:=KP f n∧Dx f n∧∃L,vM L∧laid L=yT f n∧Zl L=q
def xw(f:Nat)(l:List Nd):Prop:=∀x ∈ l,KP f x∧Dx f x
theorem xw.nil(f:Nat):xw f []:=λx h=>by cases h
theorem xw.cons{f:Nat}{x:Nd}{l:List Nd}(h1:KP f x)(h2:Dx f x)(h:xw f l):xw f (x::l):=λy hy=>by
 rcases List.mem_cons.1 hy with rfl|hy
 ·exact⟨h1,h2⟩
 ·exact h y hy
theorem xw.append{f:Nat}{l m:List Nd}(h:xw f l)(hm:xw f m):xw f (l++m):=λy hy=>(List.mem_append.1 hy).elim (h y) (hm y)
inductive F2 (re:Nd→Bool):List Kd→List Nd→Prop where
 |nil:F2 re [] []
 |cons {k:Kd} {ks:List Kd} {x:Nd} {l:List Nd}:qT re k x=true→F2 re ks l→F2 re (k::ks) (x::l)
theorem F2.len{re:Nd→Bool}{ks:List Kd}{l:List Nd}(h:F2 re ks l):ks.length=l.length:=by
 induction h with
 |nil=>rfl
 |cons _ _ ih=>simp[ih]
theorem F2.get{re:Nd→Bool}{ks:List Kd}{l:List Nd}(h:F2 re ks l):∀i (h1:i<ks.length) (h2:i<l.length),qT re ks[i] l[i]=true:=by
 induction h with
 |nil=>intro i h1;simp at h1
 |cons hx _ ih =>
  intro i h1 h2;cases i with
  |zero=>exact hx
  |succ i=>exact ih i (by simpa using h1) (by simpa using h2)
def Hk(d:Nat)(k:Kd)(n:Nd)(q:List Tk):Prop:=qT (zF d) k n=true∧U7 (d+1) n q
theorem Yz{k:Nat}{t:Tk}(h:yO k t=true):t.kind=k:=by unfold yO at h;simpa using h
theorem fk(d:Nat)(h:Gq (λn q=>zF d n=true∧U7 (d+1) n q) (zJ d))(k:Kd):Gq (Hk d k) (y8 (zJ d) k):=by
 cases k
 ·exact h
 ·refine(Gq.take _).bind λt q ht=>Gq.ret ?_
  obtain⟨rfl,hg,hk⟩:=ht;have hk1:=Yz hk;have hn:=kL hg hk1;refine⟨?_,.inr (.inl ⟨?_,rfl,hn⟩),⟨Nat.zero_le _,λx hx=>by cases hx⟩,[(t.1,[])],vM.word hg,?_,rfl⟩
  ·show(_&&vz (t.1.n:Int)&&_)=true
   rw[hn];rfl
  ·show ¬(j0=jE∨j0=qZ)
   decide
  ·rw[jA]
   have e:yT (d+1) (.mk j0 [] (t.1.n:Int) (t.2:Int) [])=Lib.itoa (t.1.n:Int):=(if_neg (by show ¬(j0=jE∨j0=qZ);decide)).trans (if_pos rfl);rw[e,XF];simp[laid,Qi,hk1]
 ·refine(Gq.take _).bind λt q ht=>Gq.ret ?_
  obtain⟨rfl,hg,hk⟩:=ht;have hn:=Yd hg hk;refine⟨?_,.inl (.inr rfl),⟨Nat.zero_le _,λx hx=>by cases hx⟩,[(t.1,[])],vM.word hg,?_,rfl⟩
  ·show(_&&jn t.1.s&&_&&_)=true
   rw[hn];rfl
  ·have e:yT (d+1) (.mk qZ t.1.s 0 (t.2:Int) [])=t.1.s:=if_pos (.inr rfl)
   rw[e,jA,yK (Z2 hk).1];simp[laid]
def TL(d:Nat)(l:List Nd)(q:List Tk):Prop:=xw (d+1) l∧∃L,vM L∧Fh L∧laid L=Lib.joinTail [44,32] (l.map (yT (d+1)))∧Zl L=q
theorem TL.nil(d:Nat):TL d [] []:=⟨xw.nil _,[],vM.nil,.inl rfl,rfl,rfl⟩
theorem JS(sep x:List UInt8)(r:List (List UInt8)):Lib.joinTail sep (x::r)=sep++x++Lib.joinTail sep r:=by simp[Lib.joinTail]
theorem QU(sep:List UInt8)(r s:List (List UInt8)):Lib.joinTail sep (r++s)=Lib.joinTail sep r++Lib.joinTail sep s:=by simp[Lib.joinTail]
theorem TL.cons{d:Nat}{x:Nd}{l:List Nd}{t:Tk}{qx ql:List Tk}(ht:t=Xh 44)(hx:U7 (d+1) x qx)(hl:TL d l ql):TL d (x::l) ([t]++(qx++(ql++ []))):=by
 obtain⟨h1,h2,Lx,o1,e1,t1⟩:=hx;obtain⟨ha,Ll,o2,hs,e2,t2⟩:=hl;subst ht;refine⟨ha.cons h1 h2,(Xh 44,[32])::(Lx++Ll),vM.sign (xT 44 (by decide)) rfl (.inr (.inl rfl)) (o1.append o2 hs),.inr ⟨Xh 44,[32],_,rfl,rfl⟩,?_,?_⟩
 ·rw[jA,vC,e1,e2,List.map_cons,JS]
  simp[QY]
 ·rw[yC,vB,t1,t2]
  simp
theorem gY(d:Nat)(h:∀k,Gq (Hk d k) (y8 (zJ d) k))(ks:List Kd):Gq (λl q=>F2 (zF d) ks l∧TL d l q) (vw (zJ d) false ks):=by
 induction ks with
 |nil=>exact Gq.ret ⟨.nil,TL.nil d⟩
 |cons k ks ih =>
  exact(Gq.take _).bind λt q ht=>(h k).bind λx qx hx=>ih.bind λl ql hl=>Gq.ret (by
   obtain⟨rfl,hg,hk⟩:=ht
   exact⟨.cons hx.1 hl.1,TL.cons (Qp hg hk) hx.2 hl.2⟩)
theorem F8(d:Nat)(h:Gq (λn q=>zF d n=true∧U7 (d+1) n q) (zJ d))(f:Nat):Gq (λl q=>((∀x ∈ l,zF d x=true)∧l.length≤f)∧TL d l q) (xa (zJ d) f):=by
 induction f with
 |zero=>exact Gq.ret ⟨⟨(λx h=>by cases h),Nat.zero_le _⟩,TL.nil d⟩
 |succ f ih =>
  refine Gq.fork _ ((Gq.take _).bind λt q ht=>h.bind λx qx hx=>ih.bind λl ql hl=>Gq.ret ?_) (Gq.ret ⟨⟨(λx h=>by cases h),Nat.zero_le _⟩,TL.nil d⟩);obtain⟨rfl,hg,hk⟩:=ht;refine⟨⟨λy hy=>?_,by simp only[List.length_cons];have:=hl.1.2;omega⟩,TL.cons (Qp hg hk) hx.2 hl.2⟩;rcases List.mem_cons.1 hy with rfl|hy
  ·exact hx.1
  ·exact hl.1.1 y hy
theorem Xn{d:Nat}{op s:List UInt8}{n a:Int}{l m:List Nd}(hpos:0<(zw op).1.length)(hf:F2 (zF d) (zw op).1 l)(hm:(zw op).2=false→m= [])(hm2:∀x ∈ m,zF d x=true):je (zF d) (.mk op s n a (l++m))=true:=by
 unfold je;rw[Bool.and_eq_true];have hlen:=hf.len;constructor
 ·show Yr (zw op).1 (zw op).2 (l++m).length=true
  unfold Yr;rw[List.length_append];cases hb:(zw op).2 with
  |false =>
   have:=hm hb;subst this;rw[List.length_nil,decide_eq_false (show ¬(zw op).1.length=0 by omega),decide_eq_false (show ¬l.length+0<(zw op).1.length by omega),decide_eq_false (show ¬(zw op).1.length<l.length+0 by omega)];rfl
  |true =>
   rw[decide_eq_false (show ¬(zw op).1.length=0 by omega),decide_eq_false (show ¬l.length+m.length<(zw op).1.length by omega)];simp
 ·rw[List.all_eq_true]
  intro i hi;have hi':i<(l++m).length:=List.mem_range.1 hi;show qT (zF d) (Qe (zw op).1 i) ((l++m).getD i _)=true;rw[List.getD_eq_getElem?_getD,List.getElem?_eq_getElem hi'];show qT (zF d) (Qe (zw op).1 i) (l++m)[i]=true;cases hb:(zw op).2 with
  |false =>
   have:=hm hb;subst this;simp only[List.append_nil]at hi' ⊢;obtain⟨hk,e⟩:=YM (ks:=(zw op).1) (i:=i) hpos;rw[←e];have hmin:min i ((zw op).1.length-1)=i:=by omega
   have:=hf.get i (by omega) hi';simp only[hmin];exact this
  |true =>
   have hks:=Xl hb
   have hkd:Qe (zw op).1 i= .ex:=by
    rw[hks];unfold Qe;simp
   rw[hkd];show zF d _=true;by_cases hil:i<l.length
   ·rw[List.getElem_append_left hil]
    rw[hks]at hf hlen;have h0:i=0:=by simp at hlen;omega
    have:=hf.get i (by simp;omega) hil;simp only[h0]at this ⊢;exact this
   ·rw[List.getElem_append_right (by omega)]
    exact hm2 _ (List.getElem_mem _)
theorem gd(x:List UInt8)(r s:List (List UInt8))(sep:List UInt8):Lib.join (x::r++s) sep=Lib.join (x::r) sep++Lib.joinTail sep s:=by
 rw[List.cons_append,Lib.join_cons,Lib.join_cons,QU,List.append_assoc]
def Hp(d:Nat)(op:List UInt8)(l:List Nd)(q:List Tk):Prop:=(∀s n a,je (zF d) (.mk op s n a l)=true)∧xw (d+1) l∧l.length≤1000∧∃L,vM L∧Fh L∧laid L= [40]++Lib.join (l.map (yT (d+1))) [44,32]++ [41]∧Zl L=q
theorem U0(d:Nat)(h:Gq (λn q=>zF d n=true∧U7 (d+1) n q) (zJ d))(op:List UInt8)(hpos:0<(zw op).1.length):Gq (Hp d op) (Zg (zJ d) op):=by
 have hp:=fk d h
 have hfirst:Gq (λl q=>F2 (zF d) (zw op).1 l∧xw (d+1) l∧∃x r L,l=x::r∧vM L∧laid L=Lib.join (l.map (yT (d+1))) [44,32]∧Zl L=q) (vw (zJ d) true (zw op).1):=by
  cases hks:(zw op).1 with
  |nil=>rw[hks]at hpos;simp at hpos
  |cons k ks =>
   refine(hp k).bind λx qx hx=>(gY d hp ks).bind λl ql hl=>Gq.ret ?_
   obtain⟨h0,h1,h2,Lx,o1,e1,t1⟩:=hx;obtain⟨hf,ha,Ll,o2,hs,e2,t2⟩:=hl;refine⟨.cons h0 hf,ha.cons h1 h2,x,l,Lx++Ll,rfl,o1.append o2 hs,?_,?_⟩
   ·rw[vC,e1,e2,List.map_cons,Lib.join_cons]
   ·rw[vB,t1,t2];simp
 have hmore:Gq (λm q=>(((zw op).2=false→m= [])∧(∀x ∈ m,zF d x=true)∧m.length≤501)∧TL d m q) (if(zw op).2=true then xa (zJ d) 501 else jq []):=
  Gq.ite _ (λhb=>(F8 d h 501).mono λm q hm=>⟨⟨λe=>(by rw[hb]at e;cases e),hm.1.1,hm.1.2⟩,hm.2⟩) (λhb=>Gq.ret ⟨⟨λ_=>rfl,(λx hx=>by cases hx),Nat.zero_le _⟩,TL.nil d⟩)
 refine(Gq.take _).bind λt1 q1 h1=>hfirst.bind λl ql hl=>hmore.bind λm qm hm=>(Gq.take _).bind λt2 q2 h2=>Gq.ret ?_
 obtain⟨rfl,hg1,hk1⟩:=h1;obtain⟨rfl,hg2,hk2⟩:=h2;obtain⟨hf,ha,x,r,L,rfl,o1,e1,tt1⟩:=hl;obtain⟨⟨c1,c2,c3⟩,hb,M,o2,hs,e2,tt2⟩:=hm;have s1:=Qp hg1 hk1;have s2:=Qp hg2 hk2;have hlen:=hf.len;have h3:=ZN op;refine⟨λs n a=>Xn hpos hf c1 c2,ha.append hb,by rw[List.length_append];omega,(Xh 40,[])::(L++M++ [(Xh 41,[])]),?_,.inr ⟨Xh 40,[],_,rfl,rfl⟩,?_,?_⟩
 ·exact vM.sign (xT 40 (by decide)) rfl (.inl rfl) ((o1.append o2 hs).append (vM.sign (xT 41 (by decide)) rfl (.inl rfl) vM.nil) (.inr ⟨Xh 41,[],[],rfl,rfl⟩))
 ·rw[jA,vC,vC,e1,e2,List.map_append,List.map_cons,gd]
  simp[laid,QY]
 ·rw[yC,vB,vB,tt1,tt2,s1,s2]
  simp[Zl]
theorem fF{op:List UInt8}(h:0<(zw op).1.length):¬(op=jE∨op=qZ)∧op≠j0∧op≠jE:=by
 refine⟨?_,?_,?_⟩
 ·rintro(rfl|rfl)
  ·exact absurd h (by decide)
  ·exact absurd h (by decide)
 ·rintro rfl;exact absurd h (by decide)
 ·rintro rfl;exact absurd h (by decide)
theorem UR(d:Nat):Gq (λn q=>zF d n=true∧U7 (d+1) n q) (zJ d):=by
 induction d with
 |zero=>intro en ts hg x r hx;cases hx
 |succ d ih =>
  refine(Gq.take _).bind λt q ht=>?_
  obtain⟨rfl,hg,hb⟩:=ht;refine Gq.ite _ (λhn=>Gq.ret ?_) (λhn=>?_)
  ·have hh:=Yd hg hn
   refine⟨?_,.inl (.inl rfl),⟨Nat.zero_le _,λx hx=>by cases hx⟩,[(t.1,[])],vM.word hg,?_,rfl⟩
   ·show(true&&(if jE=jE then jn t.1.s&&true else _))=true
    rw[if_pos rfl,hh];rfl
   ·have e:yT (d+2) (.mk jE t.1.s 0 (t.2:Int) [])=t.1.s:=if_pos (.inl rfl)
    rw[e,jA,yK (Z2 hn).1];simp[laid]
  ·have hpos:=Yj hb (by simpa using hn)
   have h0:t.1.kind=0:=by
    unfold yR at hb;rw[show jH t.1=false by simpa using hn]at hb;simp at hb;exact hb.1
   obtain⟨u1,u2,u3⟩:=fF hpos;refine(U0 d ih t.1.s hpos).bind λl ql hl=>Gq.ret ?_
   obtain⟨hp,ha,hle,L,o1,hs,e1,t1⟩:=hl;refine⟨?_,.inr (.inr ⟨u1,u2,λx hx=>(ha x hx).1⟩),⟨by show l.length≤_;omega,λx hx=>(ha x hx).2⟩,(t.1,[])::L,?_,?_,?_⟩
   ·show(true&&(if t.1.s=jE then _ else true&&je (zF d) _))=true
    rw[if_neg u3,hp [] 0 (t.2:Int)];rfl
   ·exact(vM.word hg).append o1 hs
   ·have e:yT (d+2) (.mk t.1.s [] 0 (t.2:Int) l)=t.1.s++ [40]++Lib.join (l.map (yT (d+1))) [44,32]++ [41]:=(if_neg u1).trans (if_neg u2)
    rw[e,jA,e1,yK h0];simp
   ·rw[yC,t1]
    simp
end
section
structure dw (n:Nd):Prop where
 s:n.s.length≤1000
 num:(n.op=zd∨n.op=zm)→vz n.n=true
 hex:(n.op=qo∨n.op=zQ)→∃m,n.l= [m]∧m.s.length≤1000
 vol:n.op=zv→∃m,n.l= [m]∧KP 13 m∧Dx 13 m
def Rs(op:List UInt8)(r:Int×List Nd)(q:List Tk):Prop:=
 (∀s a,jn s=true→qY (.mk op s r.1 a r.2)=true)∧(∀s a,s.length≤1000→dw (.mk op s r.1 a r.2)) ∧
 ∃sep L,((sep= []∧L= [])∨(sep= [32]∧vM L))∧(∀s a,sep++laid L=XB (.mk op s r.1 a r.2))∧Zl L=q
theorem Jp{op s:List UInt8}{n a:Int}{l:List Nd}(hs:s.length≤1000)(h1:(op=zd∨op=zm)→vz n=true)(h2:(op=qo∨op=zQ)→∃m,l= [m]∧m.s.length≤1000)(h3:op=zv→∃m,l= [m]∧KP 13 m∧Dx 13 m):dw (.mk op s n a l):=⟨hs,h1,h2,h3⟩
theorem Uy(op:List UInt8)(hop:op ∈ vG):Gq (Rs op) (vA op):=by
 unfold vA;refine Gq.ite _ (λh1=>?_) (λh1=>Gq.ite _ (λh2=>?_) (λh2=>Gq.ite _ (λh3=>?_) (λh3=>?_)))
 ·refine(Gq.take _).bind λt q ht=>Gq.ret ?_
  obtain⟨rfl,hg,hk⟩:=ht;have hk1:=Yz hk;have hn:=kL hg hk1;refine⟨λs a hs=>?_,λs a hs=>Jp hs (λ_=>hn) (λh=>?_) (λh=>?_),[32],[(t.1,[])],.inr ⟨rfl,vM.word hg⟩,λs a=>?_,rfl⟩
  ·show(jn s&&(if op=zd∨op=zm then vz (t.1.n:Int)&&true else _))=true
   rw[hs,if_pos h1,hn];rfl
  ·exfalso
   rcases h1 with rfl|rfl<;>rcases h with h|h<;>exact absurd h (by decide)
  ·exfalso
   rcases h1 with rfl|rfl<;>exact absurd h (by decide)
  ·show[32]++laid [(t.1,[])]=if op=zd∨op=zm then 32::Lib.itoa (t.1.n:Int)else _
   rw[if_pos h1,XF];simp[laid,Qi,hk1]
 ·refine(Gq.take _).bind λt q ht=>Gq.ret ?_
  obtain⟨rfl,hg,hk⟩:=ht;have hk2:=Yz hk;have hh:=DH hg hk2;refine⟨λs a hs=>?_,λs a hs=>Jp hs (λh=>absurd h h1) (λ_=>⟨_,rfl,hg.short⟩) (λh=>?_),[32],[(t.1,[])],.inr ⟨rfl,vM.word hg⟩,λs a=>?_,rfl⟩
  ·show(jn s&&(if op=zd∨op=zm then _ else if op=qo∨op=zQ then(true&&true&&(true&&JA t.1.s&&true&&true))else _))=true
   rw[hs,if_neg h1,if_pos h2,hh];rfl
  ·exfalso
   rcases h2 with rfl|rfl<;>exact absurd h (by decide)
  ·show[32]++laid [(t.1,[])]=if op=zd∨op=zm then _ else if op=qo∨op=zQ then[32,36]++t.1.s else _
   rw[if_neg h1,if_pos h2];simp[laid,Qi,hk2]
 ·refine(Gq.take _).bind λt q ht=>(UR 12).bind λn ql hn=>Gq.ret ?_
  obtain⟨rfl,hg,hk⟩:=ht;obtain⟨hr,hT,hF,L,o1,e1,t1⟩:=hn;have hs61:=Qp hg hk;refine⟨λs a hs=>?_,λs a hs=>Jp hs (λh=>absurd h h1) (λh=>absurd h h2) (λ_=>⟨_,rfl,hT,hF⟩),[32],(Xh 61,[32])::L,.inr ⟨rfl,vM.sign (xT 61 (by decide)) rfl (.inr (.inl rfl)) o1⟩,λs a=>?_,?_⟩
  ·show(jn s&&(if op=zd∨op=zm then _ else if op=qo∨op=zQ then _ else if op=zv then(true&&true&&zF 12 n)else _))=true
   rw[hs,if_neg h1,if_neg h2,if_pos h3,hr];rfl
  ·show[32]++laid ((Xh 61,[32])::L)=if op=zd∨op=zm then _ else if op=qo∨op=zQ then _ else if op=zv then[32,61,32]++yT 13 n else _
   rw[if_neg h1,if_neg h2,if_pos h3,jA,e1,QY];simp
  ·rw[yC,t1,hs61]
   simp
 ·have hex:op=zM:=by
   unfold vG at hop;simp only[List.mem_cons,List.not_mem_nil,or_false]at hop;rcases hop with h|h|h|h|h|h
   ·exact absurd (.inl h) h1
   ·exact absurd (.inr h) h1
   ·exact absurd (.inl h) h2
   ·exact absurd (.inr h) h2
   ·exact absurd h h3
   ·exact h
  subst hex;refine Gq.fork _ ((Gq.take _).bind λt q ht=>Gq.ret ?_) (Gq.ret ?_)
  ·obtain⟨rfl,hg,hk⟩:=ht
   have hw:t.1.kind=0∧t.1.s=jY:=by
    unfold yP at hk
    simpa using hk
   refine⟨λs a hs=>?_,λs a hs=>Jp hs (λh=>absurd h h1) (λh=>absurd h h2) (λh=>absurd h h3),[32],[(t.1,[])],.inr ⟨rfl,vM.word hg⟩,λs a=>?_,rfl⟩
   ·show(jn s&&_)=true
    rw[hs];rfl
   ·show[32]++laid [(t.1,[])]=32::jY
    rw[jA,yK hw.1,hw.2];rfl
  ·refine⟨λs a hs=>?_,λs a hs=>Jp hs (λh=>absurd h h1) (λh=>absurd h h2) (λh=>absurd h h3),[],[],.inl ⟨rfl,rfl⟩,λs a=>rfl,rfl⟩
   show(jn s&&_)=true;rw[hs];rfl
def St(n:Nd)(q:List Tk):Prop:=qY n=true∧dw n∧∃L,(∀rest,Zk rest→Zk (L++rest))∧laid L=QH n∧Zl L=q
theorem Uu:Gq St qC:=by
 refine(Gq.take _).bind λt q ht=>(Gq.take _).bind λu q2 hu=>?_
 obtain⟨rfl,hg,hk⟩:=ht;obtain⟨rfl,hgu,hku⟩:=hu
 have hw:t.1.kind=0∧t.1.s ∈ vG:=by
  unfold yP at hk;simp only[Bool.and_eq_true,beq_iff_eq,List.any_eq_true]at hk;obtain⟨h0,y,hy,e⟩:=hk;exact⟨h0,by rw[e];exact hy⟩
 refine(Uy t.1.s hw.2).bind λr q3 hr=>(Gq.take _).bind λv q4 hv=>Gq.ret ?_
 obtain⟨rfl,hgv,hkv⟩:=hv;obtain⟨hR,hP,sep,L,hsep,hl,hq⟩:=hr;have hs59:=Qp hgv hkv;have hu0:=(Z2 hku).1;refine⟨hR _ _ (Yd hgu hku),hP _ _ hgu.short,(t.1,[32])::(u.1,sep)::(L++ [(Xh 59,[10])]),λrest hrest=>?_,?_,?_⟩
 ·have h0:Zk ((Xh 59,[10])::rest):= .cons _ _ _ (xT 59 (by decide)) (.inr (.inr rfl)) (.inl rfl) hrest
  have e:(t.1,[32])::(u.1,sep)::(L++ [(Xh 59,[10])])++rest=(t.1,[32])::(u.1,sep)::(L++(Xh 59,[10])::rest):=by simp
  rw[e];refine .cons _ _ _ hg (.inr (.inl rfl)) (.inr (.inl (by simp))) ?_;rcases hsep with⟨rfl,rfl⟩|⟨rfl,hL⟩
  ·exact .cons _ _ _ hgu (.inl rfl) (.inr (.inr ⟨Xh 59,[10],rest,rfl,rfl⟩)) h0
  ·exact .cons _ _ _ hgu (.inr (.inl rfl)) (.inr (.inl (by simp))) (hL _ _ _ rfl h0)
 ·rw[jA,jA,vC,yK hw.1,yK hu0]
  have e:=hl u.1.s (t.2:Int);show _=t.1.s++ [32]++u.1.s++XB (.mk t.1.s u.1.s r.1 (t.2:Int) r.2)++ [59,10];rw[←e];simp[laid,QY]
 ·rw[yC,yC,vB,hq,hs59]
  simp[Zl]
def Dl(l:List Nd)(q:List Tk):Prop:=(∀x ∈ l,qY x=true∧dw x)∧∃L,Zk L∧laid L=l.flatMap QH∧Zl L=q
theorem U8(f:Nat):Gq Dl (jB f):=by
 induction f with
 |zero=>exact Gq.ret ⟨λx h=>(by cases h),[],.nil,rfl,rfl⟩
 |succ f ih =>
  have hb:Gq Dl (zz qC λn=>zz (jB f) λl=>jq (n::l)):=Uu.bind λn q hn=>ih.bind λl ql hl=>Gq.ret (by
   obtain⟨h1,h2,L,o1,e1,t1⟩:=hn;obtain⟨h3,M,o2,e2,t2⟩:=hl;refine⟨λx hx=>?_,L++M,o1 M o2,?_,?_⟩
   ·rcases List.mem_cons.1 hx with rfl|hx
    ·exact⟨h1,h2⟩
    ·exact h3 x hx
   ·rw[vC,e1,e2];rfl
   ·rw[vB,t1,t2];simp)
  intro en ts hg x r hx;cases ts with
  |nil=>cases hx;exact⟨[],rfl,⟨λx h=>(by cases h),[],.nil,rfl,rfl⟩,hg⟩
  |cons t ts=>exact hb en (t::ts) hg x r hx
theorem UF{t:Tk}(h:yz t):(Qi t).length≤1001:=by
 have hs:=h.short;unfold Qi
 split
 ·rename_i h1;have:=Kj 8 t.n (by have:=(h.num h1).2;simpa using this);omega
 ·split
  ·simp;omega
  ·omega
theorem fR{L:Ua}(h:Zk L):(laid L).length≤1002*L.length:=by
 induction h with
 |nil=>simp[laid]
 |cons t s L hg hs _ _ ih =>
  rw[jA];have:=UF hg;have h1:s.length≤1:=by rcases hs with rfl|rfl|rfl<;>simp
  simp only[List.length_append,List.length_cons];omega
theorem Fv{x:Nd}{l:List Nd}(h:x ∈ l):(QH x).length≤(l.flatMap QH).length:=by
 induction l with
 |nil=>cases h
 |cons y l ih =>
  rw[List.flatMap_cons,List.length_append];rcases List.mem_cons.1 h with rfl|h
  ·omega
  ·have:=ih h;omega
theorem dJ{n:Nd}(h:dw n)(hz:(QH n).length≤1000000):dL n:=by
 refine⟨by have:=h.s;omega,h.num,λe=>?_,λe=>?_⟩
 ·obtain⟨m,e1,e2⟩:=h.hex e
  exact⟨m,e1,by omega⟩
 ·obtain⟨m,e1,e2,e3⟩:=h.vol e
  refine⟨m,e1,e2,?_,e3⟩
  have e4:XB n= [32,61,32]++yT 13 m:=by
   unfold XB;rw[if_neg (by rw[e];decide),if_neg (by rw[e];decide),if_pos e,e1];rfl
  unfold QH at hz;rw[e4]at hz;simp only[List.length_append]at hz;omega
theorem QO{x:List UInt8}{n:Nd}(h:j6 x= .ok n):yj n=true∧(∀y ∈ n.l,dL y)∧(printed n).length≤1000000:=by
 obtain⟨ts,l,hS,hp,rfl⟩:=Z1 h;obtain⟨hlen,hgd⟩:=vL hS;obtain⟨q,e,⟨h1,L,o1,e1,t1⟩,_⟩:=U8 501 _ ts hgd l [] hp
 have hq:L.length≤500:=by
  have :(Zl L).length=ts.length:=by rw[t1];have:=congrArg List.length e;simpa [VS]using this.symm
  simp[Zl]at this;omega
 have hz:(l.flatMap QH).length≤1000000:=by rw[←e1];have:=fR o1;omega
 refine⟨?_,λy hy=>dJ (h1 y hy).2 (by have:=Fv (l:=l) hy;omega),hz⟩;unfold yj;rw[show Nd.l (.mk ZD [] 0 0 l)=l from rfl,List.all_eq_true.2 (λy hy=>(h1 y hy).1)];rfl
end
section
open Go.ChangeShapes Go.WideShapes Go.ChangeAt Go.RowKit Go.MapKept
theorem FG:Qh d9:= .mk _ _ _ _ _ (by decide) (by decide) (λx h=>by cases h)
theorem dc(x:List UInt8):Qh (PT x):=by
 unfold PT;cases h:j6 x with
 |ok n=>exact xg h
 |error e=>exact FG
theorem kC(x:List UInt8){W w1:World}{A:Option Addr}{C:Nat}(h:j3 w1 (PT x) A C)(hb:Below w1.heap.size w1 W):Calls Tryz.prog 20 #[.agg (qa (PT x) (.slice A (PT x).l.length C))] W (Fq W (PT x)):=FS _ _ _ _ (h.grow hb) (dn x) (dc x)
theorem D1(x:List UInt8)(w:World)(hx:x.length≤maxLen){er:Nat×Nat}(hP:j6 x= .error er):Calls Tryz.prog 8 #[.string (bs x)] w λe w'=>e= .returned (.bool true)∧Below w.heap.size w w':=by
 have hX0:=Ui x w hx
 have HNM:=(λw1 W A C (h:j3 w1 (PT x) A C) hb=>kC x (W:=W) h hb)
 generalize PT x=n at *
 have hX:Calls Tryz.prog 9 #[.string (bs x)] w λe w'=>∃A C c k,e= .returned (.tuple #[.agg #[.string (bs n.op),.string (bs n.s),.int .i64 n.n,.int .i64 n.a,.slice A n.l.length C],.int .i64 c,.int .i64 k])∧j3 w' n A C∧Below w.heap.size w w'∧¬c=0:=by
  refine hX0.mono ?_;rintro e w' ⟨A,C,c,k,rfl,h1,h2,h3⟩;refine⟨A,C,c,k,rfl,h1,h2,?_⟩;rcases h3 with⟨n',h,_⟩|⟨_,h⟩
  ·rw[hP]at h;cases h
  ·exact h
 have hal:=λW=>yF W
 unfold qa at HNM;clear hX0 hP;go_enter Tryz.func8,Tryz.ntmps8
 go_wp2_with (first
  |((go_at_call 9)
    refine hX.mono ?_;rintro e w1 ⟨A,C,c,k,rfl,hr1,hb1,hc0⟩;have HN2:=zt (HNM w1 (w1.alloc (.cells #[.string (bs n.op),.string (bs n.s),.int .i64 n.n,.int .i64 n.a,.slice A n.l.length C] 24)) A C hr1 (zf w1 _));have hn1:=HN2.out;unfold Fq at hn1;have hX1:=zh.new w1 24 #[.string (bs n.op),.string (bs n.s),.int .i64 n.n,.int .i64 n.a,.slice A n.l.length C];have a0:=hX1.cell 0;have a1:=hX1.cell 1;have a2:=hX1.cell 2;have a3:=hX1.cell 3;have a4:=hX1.cell 4;simp only[qQ,qR,qS]at a0 a1 a2 a3 a4;have al:=hX1.lt;(clear hX))
  |((go_at_call 20)
    refine hn1.mono ?_;rintro e w2 ⟨m,A2,C2,b,rfl,hN2,hZ2,hS2,hb2⟩;unfold qa;(have hbb:=(hb1.alloc hb1.size (.cells #[.string (bs n.op),.string (bs n.s),.int .i64 n.n,.int .i64 n.a,.slice A n.l.length C] 24)).trans (hb2.mono (by have:=hb1.size;simp;omega))))
  |((go_at_call 14)
    refine(hal _).mono ?_;(rintro e w4 ⟨rfl,hb4⟩)))
 go_ret
 exact⟨rfl,(hbb.alloc hbb.size _).trans (hb4.mono (by have:=hbb.size;simp;omega))⟩
theorem FC(x:List UInt8)(w:World)(hx:x.length≤maxLen){n:Nd}(hP:j6 x= .ok n)(hS:¬Qs n):Calls Tryz.prog 8 #[.string (bs x)] w λe w'=>e= .returned (.bool true)∧Below w.heap.size w w':=by
 have hX0:=Ui x w hx
 have HNM:=(λw1 W A C (h:j3 w1 (PT x) A C) hb=>kC x (W:=W) h hb)
 have eP:PT x=n:=by unfold PT;rw[hP]
 rw[eP]at hX0 HNM
 have hX:Calls Tryz.prog 9 #[.string (bs x)] w λe w'=>∃A C k,e= .returned (.tuple #[.agg #[.string (bs n.op),.string (bs n.s),.int .i64 n.n,.int .i64 n.a,.slice A n.l.length C],.int .i64 0,.int .i64 k])∧j3 w' n A C∧Below w.heap.size w w':=by
  refine hX0.mono ?_;rintro e w' ⟨A,C,c,k,rfl,h1,h2,h3⟩;rcases h3 with⟨n',h,rfl⟩|⟨⟨er,h⟩,_⟩
  ·exact⟨A,C,k,rfl,h1,h2⟩
  ·rw[hP]at h;cases h
 have hal:=λW=>yF W
 unfold qa at HNM;clear hX0 hP eP;go_enter Tryz.func8,Tryz.ntmps8
 go_wp2_with (first
  |((go_at_call 9)
    refine hX.mono ?_;rintro e w1 ⟨A,C,k,rfl,hr1,hb1⟩;have HN2:=zt (HNM w1 (w1.alloc (.cells #[.string (bs n.op),.string (bs n.s),.int .i64 n.n,.int .i64 n.a,.slice A n.l.length C] 24)) A C hr1 (zf w1 _));have hn1:=HN2.out;unfold Fq at hn1;have hX1:=zh.new w1 24 #[.string (bs n.op),.string (bs n.s),.int .i64 n.n,.int .i64 n.a,.slice A n.l.length C];have a0:=hX1.cell 0;have a1:=hX1.cell 1;have a2:=hX1.cell 2;have a3:=hX1.cell 3;have a4:=hX1.cell 4;simp only[qQ,qR,qS]at a0 a1 a2 a3 a4;have al:=hX1.lt;(clear hX))
  |((go_at_call 20)
    refine hn1.mono ?_;rintro e w2 ⟨m,A2,C2,b,rfl,hN2,hZ2,hS2,hb2⟩;(obtain rfl:b=false:=by cases b;rfl;exact absurd (hS2.1 rfl) hS);unfold qa;(have hbb:=(hb1.alloc hb1.size (.cells #[.string (bs n.op),.string (bs n.s),.int .i64 n.n,.int .i64 n.a,.slice A n.l.length C] 24)).trans (hb2.mono (by have:=hb1.size;simp;omega))))
  |((go_at_call 14)
    refine(hal _).mono ?_;(rintro e w4 ⟨rfl,hb4⟩)))
 go_ret
 exact⟨rfl,(hbb.alloc hbb.size _).trans (hb4.mono (by have:=hbb.size;simp;omega))⟩
theorem dO(x:List UInt8)(w:World)(hx:x.length≤maxLen){n:Nd}(hP:j6 x= .ok n)(hS:Qs n){s:JN}(hC:jQ n= .ok s):Calls Tryz.prog 8 #[.string (bs x)] w λe w'=>e= .returned (.bool true)∧Below w.heap.size w w':=by
 have hX0:=Ui x w hx
 have HNM:=(λw1 W A C (h:j3 w1 (PT x) A C) hb=>kC x (W:=W) h hb)
 have eP:PT x=n:=by unfold PT;rw[hP]
 rw[eP]at hX0 HNM
 have hX:Calls Tryz.prog 9 #[.string (bs x)] w λe w'=>∃A C k,e= .returned (.tuple #[.agg #[.string (bs n.op),.string (bs n.s),.int .i64 n.n,.int .i64 n.a,.slice A n.l.length C],.int .i64 0,.int .i64 k])∧j3 w' n A C∧Below w.heap.size w w':=by
  refine hX0.mono ?_;rintro e w' ⟨A,C,c,k,rfl,h1,h2,h3⟩;rcases h3 with⟨n',h,rfl⟩|⟨⟨er,h⟩,_⟩
  ·exact⟨A,C,k,rfl,h1,h2⟩
  ·rw[hP]at h;cases h
 have lim:=Zn hP;have sml:=xg hP;have hRt:=(QO hP).1;have hsw:=Gs lim hC;have HC1:=zt (λW A C (h:j3 W n A C)=>by have:=Qc n A C W h lim;rw[hC]at this;exact this);have hal:=λW=>yF W
 unfold qa at HNM HC1;clear hX0 hP eP;go_enter Tryz.func8,Tryz.ntmps8
 go_wp2_with (first
  |((go_at_call 9)
    refine hX.mono ?_;rintro e w1 ⟨A,C,k,rfl,hr1,hb1⟩;have HN2:=zt (HNM w1 (w1.alloc (.cells #[.string (bs n.op),.string (bs n.s),.int .i64 n.n,.int .i64 n.a,.slice A n.l.length C] 24)) A C hr1 (zf w1 _));have hn1:=HN2.out;unfold Fq at hn1;have hX1:=zh.new w1 24 #[.string (bs n.op),.string (bs n.s),.int .i64 n.n,.int .i64 n.a,.slice A n.l.length C];have a0:=hX1.cell 0;have a1:=hX1.cell 1;have a2:=hX1.cell 2;have a3:=hX1.cell 3;have a4:=hX1.cell 4;simp only[qQ,qR,qS]at a0 a1 a2 a3 a4;have al:=hX1.lt;(clear hX))
  |((go_at_call 20)
    refine hn1.mono ?_;rintro e w2 ⟨m,A2,C2,b,rfl,hN2,hZ2,hS2,hb2⟩;obtain rfl:b=true:=hS2.2 hS;have hz2:=Dq hZ2 hS;have hr2:=hN2.rdn (Dh sml hz2);have hC2:=(J5 hz2 hRt lim).trans hC;have lim2:=Ds lim hz2;unfold qa;have hbb:=(hb1.alloc hb1.size (.cells #[.string (bs n.op),.string (bs n.s),.int .i64 n.n,.int .i64 n.a,.slice A n.l.length C] 24)).trans (hb2.mono (by have:=hb1.size;simp;omega));have hN3:=(hX1.below hb2 hX1.lt).alloc (.cells #[.string (bs m.op),.string (bs m.s),.int .i64 m.n,.int .i64 m.a,.slice A2 m.l.length C2] 24);have hM3:=zh.new w2 24 #[.string (bs m.op),.string (bs m.s),.int .i64 m.n,.int .i64 m.a,.slice A2 m.l.length C2];have hB3:Below w.heap.size w (w2.alloc (.cells #[.string (bs m.op),.string (bs m.s),.int .i64 m.n,.int .i64 m.a,.slice A2 m.l.length C2] 24)):=hbb.alloc hbb.size _;have hrn:=((hr1.grow (zf w1 (.cells #[.string (bs n.op),.string (bs n.s),.int .i64 n.n,.int .i64 n.a,.slice A n.l.length C] 24))).grow hb2).grow (zf w2 (.cells #[.string (bs m.op),.string (bs m.s),.int .i64 m.n,.int .i64 m.a,.slice A2 m.l.length C2] 24));have hrm:=hr2.grow (zf w2 (.cells #[.string (bs m.op),.string (bs m.s),.int .i64 m.n,.int .i64 m.a,.slice A2 m.l.length C2] 24));have g0:=hN3.cell 0;have g1:=hN3.cell 1;have g2:=hN3.cell 2;have g3:=hN3.cell 3;have g4:=hN3.cell 4;simp only[qQ,qR,qS]at g0 g1 g2 g3 g4;have gl:=hN3.lt;have c1:=HC1.out _ A C hrn;have HC2:=zt (λW A3 C3 (h:j3 W m A3 C3)=>by have:=Qc m A3 C3 W h lim2;rw[hC2]at this;exact this);unfold qa at HC2;(clear hN2 hZ2 hS2 hz2 hC2 lim2 hr2 a0 a1 a2 a3 a4 al hn1))
  |((go_at_call 11)
    refine Uf 0 (.agg #[.string (bs n.op),.string (bs n.s),.int .i64 n.n,.int .i64 n.a,.slice A n.l.length C]) rfl ?_;refine c1.mono ?_;rintro e w5 ⟨hb5,vd1,vp1,rfl,hs5⟩;obtain⟨Ad1,Cd1,rfl⟩:=xB hs5.devs;obtain⟨Ap1,Cp1,rfl⟩:=XQ hs5;clear c1;have hM5:=(hM3.below hb5 hM3.lt).alloc (.cells #[.slice Ad1 s.devs.length Cd1,.int .i64 (s.jour:Nat),.slice Ap1 s.parts.length Cp1,.int .i64 (s.expo:Nat),.bool s.ro] 32);have hS5:=zh.new w5 32 #[.slice Ad1 s.devs.length Cd1,.int .i64 (s.jour:Nat),.slice Ap1 s.parts.length Cp1,.int .i64 (s.expo:Nat),.bool s.ro];have h0:=hM5.cell 0;have h1:=hM5.cell 1;have h2:=hM5.cell 2;have h3:=hM5.cell 3;have h4:=hM5.cell 4;simp only[qQ,qR,qS]at h0 h1 h2 h3 h4;have hl:=hM5.lt;(have c2:=HC2.out _ A2 C2 ((hrm.grow hb5).grow (zf w5 (.cells #[.slice Ad1 s.devs.length Cd1,.int .i64 (s.jour:Nat),.slice Ap1 s.parts.length Cp1,.int .i64 (s.expo:Nat),.bool s.ro] 32)))))
  |((go_at_call 11)
    refine c2.mono ?_;rintro e w6 ⟨hb6,vd2,vp2,rfl,hs6⟩;obtain⟨Ad2,Cd2,rfl⟩:=xB hs6.devs;obtain⟨Ap2,Cp2,rfl⟩:=XQ hs6;have hS6:=(hS5.below hb6 hS5.lt).alloc (.cells #[.slice Ad2 s.devs.length Cd2,.int .i64 (s.jour:Nat),.slice Ap2 s.parts.length Cp2,.int .i64 (s.expo:Nat),.bool s.ro] 32);have d0:=hS6.cell 0;have d1:=hS6.cell 1;have d2:=hS6.cell 2;have d3:=hS6.cell 3;have d4:=hS6.cell 4;simp only[qQ,qR,qS]at d0 d1 d2 d3 d4;have dl:=hS6.lt;(have dlt:=hS6.lt))
  |((go_at_call 13)
    refine(GT ((hs5.keep (zf w5 _).size (λk hk _=>(zf w5 _).block k hk)).keep hb6.size (λk hk _=>hb6.block k hk) |>.keep (zf w6 _).size (λk hk _=>(zf w6 _).block k hk)) (hs6.keep (zf w6 _).size (λk hk _=>(zf w6 _).block k hk)) hsw).mono ?_;(rintro e w7 ⟨rfl,hb7⟩))
  |((go_at_call 14)
    refine(yF _).mono ?_;(rintro e w8 ⟨rfl,hb8⟩)))
 go_ret
 have z3:=hB3.size;have z5:=hb5.size;have z6:=hb6.size;have z7:=hb7.size;simp at z6 z7;have y5:Below w.heap.size w (w5.alloc (.cells #[.slice Ad1 s.devs.length Cd1,.int .i64 (s.jour:Nat),.slice Ap1 s.parts.length Cp1,.int .i64 (s.expo:Nat),.bool s.ro] 32)):=(hB3.trans (hb5.mono z3)).alloc (by omega) _;have y6:Below w.heap.size w (w6.alloc (.cells #[.slice Ad2 s.devs.length Cd2,.int .i64 (s.jour:Nat),.slice Ap2 s.parts.length Cp2,.int .i64 (s.expo:Nat),.bool s.ro] 32)):=(y5.trans (hb6.mono (by simp;omega))).alloc (by omega) _;exact⟨rfl,(y6.trans (hb7.mono (by simp;omega))).trans (hb8.mono (by omega))⟩
theorem da(x:List UInt8)(w:World)(hx:x.length≤maxLen){n:Nd}(hP:j6 x= .ok n)(hS:Qs n){ec:Nat}{ek:Int}(hC:jQ n= .error (ec,ek)):Calls Tryz.prog 8 #[.string (bs x)] w λe w'=>e= .returned (.bool true)∧Below w.heap.size w w':=by
 have hX0:=Ui x w hx
 have HNM:=(λw1 W A C (h:j3 w1 (PT x) A C) hb=>kC x (W:=W) h hb)
 have eP:PT x=n:=by unfold PT;rw[hP]
 rw[eP]at hX0 HNM
 have hX:Calls Tryz.prog 9 #[.string (bs x)] w λe w'=>∃A C k,e= .returned (.tuple #[.agg #[.string (bs n.op),.string (bs n.s),.int .i64 n.n,.int .i64 n.a,.slice A n.l.length C],.int .i64 0,.int .i64 k])∧j3 w' n A C∧Below w.heap.size w w':=by
  refine hX0.mono ?_;rintro e w' ⟨A,C,c,k,rfl,h1,h2,h3⟩;rcases h3 with⟨n',h,rfl⟩|⟨⟨er,h⟩,_⟩
  ·exact⟨A,C,k,rfl,h1,h2⟩
  ·rw[hP]at h;cases h
 have lim:=Zn hP;have sml:=xg hP;have hRt:=(QO hP).1;have HC1:=zt (λW A C (h:j3 W n A C)=>by have:=Qc n A C W h lim;rw[hC]at this;exact this);have hal:=λW=>yF W
 unfold qa at HNM HC1;clear hX0 hP eP;go_enter Tryz.func8,Tryz.ntmps8
 go_wp2_with (first
  |((go_at_call 9)
    refine hX.mono ?_;rintro e w1 ⟨A,C,k,rfl,hr1,hb1⟩;have HN2:=zt (HNM w1 (w1.alloc (.cells #[.string (bs n.op),.string (bs n.s),.int .i64 n.n,.int .i64 n.a,.slice A n.l.length C] 24)) A C hr1 (zf w1 _));have hn1:=HN2.out;unfold Fq at hn1;have hX1:=zh.new w1 24 #[.string (bs n.op),.string (bs n.s),.int .i64 n.n,.int .i64 n.a,.slice A n.l.length C];have a0:=hX1.cell 0;have a1:=hX1.cell 1;have a2:=hX1.cell 2;have a3:=hX1.cell 3;have a4:=hX1.cell 4;simp only[qQ,qR,qS]at a0 a1 a2 a3 a4;have al:=hX1.lt;(clear hX))
  |((go_at_call 20)
    refine hn1.mono ?_;rintro e w2 ⟨m,A2,C2,b,rfl,hN2,hZ2,hS2,hb2⟩;obtain rfl:b=true:=hS2.2 hS;have hz2:=Dq hZ2 hS;have hr2:=hN2.rdn (Dh sml hz2);have hC2:=(J5 hz2 hRt lim).trans hC;have lim2:=Ds lim hz2;unfold qa;have hbb:=(hb1.alloc hb1.size (.cells #[.string (bs n.op),.string (bs n.s),.int .i64 n.n,.int .i64 n.a,.slice A n.l.length C] 24)).trans (hb2.mono (by have:=hb1.size;simp;omega));have hN3:=(hX1.below hb2 hX1.lt).alloc (.cells #[.string (bs m.op),.string (bs m.s),.int .i64 m.n,.int .i64 m.a,.slice A2 m.l.length C2] 24);have hM3:=zh.new w2 24 #[.string (bs m.op),.string (bs m.s),.int .i64 m.n,.int .i64 m.a,.slice A2 m.l.length C2];have hB3:Below w.heap.size w (w2.alloc (.cells #[.string (bs m.op),.string (bs m.s),.int .i64 m.n,.int .i64 m.a,.slice A2 m.l.length C2] 24)):=hbb.alloc hbb.size _;have hrn:=((hr1.grow (zf w1 (.cells #[.string (bs n.op),.string (bs n.s),.int .i64 n.n,.int .i64 n.a,.slice A n.l.length C] 24))).grow hb2).grow (zf w2 (.cells #[.string (bs m.op),.string (bs m.s),.int .i64 m.n,.int .i64 m.a,.slice A2 m.l.length C2] 24));have hrm:=hr2.grow (zf w2 (.cells #[.string (bs m.op),.string (bs m.s),.int .i64 m.n,.int .i64 m.a,.slice A2 m.l.length C2] 24));have g0:=hN3.cell 0;have g1:=hN3.cell 1;have g2:=hN3.cell 2;have g3:=hN3.cell 3;have g4:=hN3.cell 4;simp only[qQ,qR,qS]at g0 g1 g2 g3 g4;have gl:=hN3.lt;have c1:=HC1.out _ A C hrn;have HC2:=zt (λW A3 C3 (h:j3 W m A3 C3)=>by have:=Qc m A3 C3 W h lim2;rw[hC2]at this;exact this);unfold qa at HC2;(clear hN2 hZ2 hS2 hz2 hC2 lim2 hr2 a0 a1 a2 a3 a4 al hn1))
  |((go_at_call 11)
    refine Uf 0 (.agg #[.string (bs n.op),.string (bs n.s),.int .i64 n.n,.int .i64 n.a,.slice A n.l.length C]) rfl ?_;refine c1.mono ?_;rintro e w5 ⟨hb5,rfl⟩;clear c1;have hM5:=(hM3.below hb5 hM3.lt).alloc (.cells #[.slice none 0 0,.int .i64 0,.slice none 0 0,.int .i64 0,.bool false] 32);have hS5:=zh.new w5 32 #[.slice none 0 0,.int .i64 0,.slice none 0 0,.int .i64 0,.bool false];have h0:=hM5.cell 0;have h1:=hM5.cell 1;have h2:=hM5.cell 2;have h3:=hM5.cell 3;have h4:=hM5.cell 4;simp only[qQ,qR,qS]at h0 h1 h2 h3 h4;have hl:=hM5.lt;(have c2:=HC2.out _ A2 C2 ((hrm.grow hb5).grow (zf w5 (.cells #[.slice none 0 0,.int .i64 0,.slice none 0 0,.int .i64 0,.bool false] 32)))))
  |((go_at_call 11)
    refine c2.mono ?_;rintro e w6 ⟨hb6,rfl⟩;have hS6:=(hS5.below hb6 hS5.lt).alloc (.cells #[.slice none 0 0,.int .i64 0,.slice none 0 0,.int .i64 0,.bool false] 32);have d0:=hS6.cell 0;have d1:=hS6.cell 1;have d2:=hS6.cell 2;have d3:=hS6.cell 3;have d4:=hS6.cell 4;simp only[qQ,qR,qS]at d0 d1 d2 d3 d4;have dl:=hS6.lt;(have dlt:=hS6.lt))
  |((go_at_call 13)
    refine(YX _).mono ?_;(rintro e w7 ⟨rfl,hb7⟩))
  |((go_at_call 14)
    refine(yF _).mono ?_;(rintro e w8 ⟨rfl,hb8⟩)))
 go_ret
 have z3:=hB3.size;have z5:=hb5.size;have z6:=hb6.size;have z7:=hb7.size;simp at z6 z7;have y5:Below w.heap.size w (w5.alloc (.cells #[.slice none 0 0,.int .i64 0,.slice none 0 0,.int .i64 0,.bool false] 32)):=(hB3.trans (hb5.mono z3)).alloc (by omega) _;have y6:Below w.heap.size w (w6.alloc (.cells #[.slice none 0 0,.int .i64 0,.slice none 0 0,.int .i64 0,.bool false] 32)):=(y5.trans (hb6.mono (by simp;omega))).alloc (by omega) _;exact⟨rfl,(y6.trans (hb7.mono (by simp;omega))).trans (hb8.mono (by omega))⟩
theorem VA(x:List UInt8)(w:World)(hx:x.length≤maxLen):Calls Tryz.prog 8 #[.string (bs x)] w λe w'=>e= .returned (.bool true)∧Below w.heap.size w w':=by
 cases hP:j6 x with
 |error er=>exact D1 x w hx hP
 |ok n =>
  by_cases hS:Qs n
  ·cases hC:jQ n with
   |ok s=>exact dO x w hx hP hS hC
   |error er=>obtain⟨ec,ek⟩:=er;exact da x w hx hP hS hC
  ·exact FC x w hx hP hS
end
end Go.Proofs.YtebcfkigbbolaaaGreatDoor
