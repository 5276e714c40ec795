import Derived.Test.YtebcfkigbbolaaaGreatDoorJoint04
namespace Go.Proofs.YtebcfkigbbolaaaGreatDoor
set_option linter.unusedVariables false
set_option maxRecDepth 100000
set_option maxHeartbeats 40000000
section
open Go.ChangeShapes Go.WideShapes Go.ChangeAt Go.RowKit
theorem za1(pb en:Nat)(w:World)(ts:zo)(h:jF w pb ts en):
 Calls Tryz.prog 106 #[.pointer (some ⟨pb,0,none⟩)] w (ZE w pb en (qi en ts)):=by
 cases hT1:zn (jD jt) en ts with
 |ok x =>
  obtain⟨⟨⟨K,S,M⟩,a⟩,r1⟩:=x;rcases kg (Vt hT1)with e|e|e|e|e|e
  all_goals
   simp only at e;subst e
  ·exact YT pb en w ts r1 K M a h hT1
  ·exact VM pb en w ts r1 K M a h hT1
  ·exact gO pb en w ts r1 K M a h hT1
  ·exact UM pb en w ts r1 K M a h hT1
  ·exact Y1 pb en w ts r1 K M a h hT1
  ·exact Xx pb en w ts r1 K M a h hT1
 |error er =>
  obtain⟨c,q⟩:=er;have hlt:=h.lt;have htk1:=λo=>vX w o h
  rw[hT1]at htk1;rw[X9 hT1];clear hT1 h;go_enter Tryz.func106,Tryz.ntmps106
  go_wp2_with (first
   |(go_at_call 131;refine zh 0 (.slice _ 6 6) rfl ?_;refine(qb _ _ _ _).mono ?_;rintro e w1 ⟨rfl,rfl⟩)
   |(go_at_call 130;refine(htk1 _).mono ?_;rintro e w2 ⟨hk2,rfl⟩))
  exact⟨rfl,zy (zd _ _) hk2,rfl⟩
theorem Fg(f en:Nat):qA (f+1) en []= .ok ([],[]):=rfl
theorem Jh(f en:Nat)(t:Tk×Nat)(r:zo):qA (f+1) en (t::r)=match qi en (t::r)with | .error e=> .error e| .ok (n,r')=>pre [n] (qA f en r'):=by
 show zt qi _ en (t::r)=_;unfold zt;cases qi en (t::r)with
 |error e=>rfl
 |ok x =>
  obtain⟨n,r'⟩:=x;simp only;cases qA f en r' with
  |error e=>rfl
  |ok y=>obtain⟨m,r''⟩:=y;rfl
theorem Zj{en:Nat}{ts r:zo}{n:Nd}(h:qi en ts= .ok (n,r)):r.length+1≤ts.length:=by
 cases hT1:zn (jD jt) en ts with
 |error e=>rw[X9 hT1]at h;cases h
 |ok x =>
  obtain⟨t,r1⟩:=x;have:=xH hT1;cases hT2:zn jl en r1 with
  |error e=>rw[xh hT1 hT2]at h;cases h
  |ok y =>
   obtain⟨u,r2⟩:=y;have h2:=xH hT2;rw[vV hT1 hT2]at h;have hs:zB (ZS t u):=(ZF _).bind λ_=>(zB.take _).bind λ_=>zB.ret _
   have:=YM hs h;omega
def zbF(w:World)(pb:Nat)(R:PR (List Nd))(e:Ending)(w':World):Prop:=Kp pb w w'∧match R with
 | .error (c,k)=>e= .panicked (flt c k)
 | .ok (l,r)=>∃A C,e= .returned (.agg (zR (.mk ji [] 0 0 l) (.slice A l.length C)))∧jB w' (λg=>w.heap.size≤g) l (.slice A l.length C)
structure FAt (w wr:World) (pb en:Nat) (ts0:zo) (l:List Nd) (A:Option Addr) (C:Nat) (ts:zo) (f:Nat):Prop where
 n3:ze wr (w.heap.size+1) 24 #[.string ⟨#[102,105,108,101]⟩,.string ⟨#[]⟩,.int .i64 0,.int .i64 0,.slice A l.length C]
 res:ze wr w.heap.size 24 #[.string ⟨#[]⟩,.string ⟨#[]⟩,.int .i64 0,.int .i64 0,.slice none 0 0]
 row:vl wr (w.heap.size+2) l (.slice A l.length C)
 at_:jF wr pb ts en
 kp:Kp pb w wr
 size:w.heap.size+2≤wr.heap.size
 fuel:ts.length<f
 len:l.length+ts.length≤500
 eq:qA 501 en ts0=pre l (qA f en ts)
theorem Z8{o:Oper}{a:Act}(x:Operand)(ho:o.op= .fieldAddr 24 x 4)(g:Nat)(hx:a.eval x= .pointer (some ⟨g,0,none⟩))(w:World):(execOp a.eval o).run Tryz.prog w= .ok (.value (.pointer (some ⟨g,4,none⟩))) w:=by
 unfold execOp;simp only[ho,hx];go_simp
theorem Vn{o:Oper}{a:Act}(x:Operand)(ho:o.op= .load 22 x)(p:Addr)(hx:a.eval x= .pointer (some p))(v:Value)(w:World)(h:w.cell? p=some v):(execOp a.eval o).run Tryz.prog w= .ok (.value v) w:=by
 unfold execOp;simp only[ho,hx];go_simp
theorem JA{o:Oper}{a:Act}(x y:Operand)(ho:o.op= .store 22 x y)(p:Addr)(hx:a.eval x= .pointer (some p))(A:Option Addr)(n c:Nat)(hy:a.eval y= .slice A n c)(w:World)(u:Value)(h:w.cell? p=some u)(hf:w.frozen? p=false):(execOp a.eval o).run Tryz.prog w= .ok .skip (w.setCell p (.slice A n c)):=by
 unfold execOp;simp only[ho,hx,hy];go_simp
theorem VN{o:Oper}{a:Act}(s x:Operand)(ho:o.op= .call { callee:= .builtin .append,args:=#[s,x],argTypes:=#[22,22] })(v u:Value)(hs:a.eval s=v)(hx:a.eval x=u)(w:World){v':Value}{w':World}(ty:TypeId)(hty:o.type=ty)(hr:(Builtin.append_ #[22,22] ty #[v,u]).run Tryz.prog w= .ok v' w'):(execOp a.eval o).run Tryz.prog w= .ok (.value v') w':=by
 subst hty;unfold execOp;simp only[ho,resolve,invoke,builtin,Sem.run_bind,Sem.run_pure,Result.andThen_ok,List.map_toArray,List.map_cons,List.map_nil,hs,hx,hr]
theorem zaK(pb en:Nat)(w:World)(ts:zo)(h:jF w pb ts en):Calls Tryz.prog 68 #[.pointer (some ⟨pb,0,none⟩)] w (zbF w pb (qA 501 en ts)):=by
 have hlt:=h.lt;have h500:=h.len;have hst:=λW ts (h:jF W pb ts en)=>za1 pb en W ts h
 go_enter Tryz.func68,Tryz.ntmps68
 go_wp2
 obtain⟨W,hW⟩:∃W,W=(w.alloc (.cells #[.string ⟨#[]⟩,.string ⟨#[]⟩,.int .i64 0,.int .i64 0,.slice none 0 0] 24)).alloc (.cells #[.string ⟨#[102,105,108,101]⟩,.string ⟨#[]⟩,.int .i64 0,.int .i64 0,.slice none 0 0] 24):=⟨_,rfl⟩
 rw[←hW]
 have hF0:FAt w W pb en ts [] none 0 ts 501:=by
  subst hW;refine⟨?_,(ze.new _ _ _).alloc _,vl.nil _ _,(h.new _).new _,Kp.of (qv _ _ _),by simp,by omega,by simp;omega,(Xr _).symm⟩;have:=ze.new (w.alloc (.cells #[.string ⟨#[]⟩,.string ⟨#[]⟩,.int .i64 0,.int .i64 0,.slice none 0 0] 24)) 24 #[.string ⟨#[102,105,108,101]⟩,.string ⟨#[]⟩,.int .i64 0,.int .i64 0,.slice none 0 0]
  simpa using this
 clear hW h
 go_loopw [5] (λ_ wz=>∃(l:List Nd) (A:Option Addr) (C:Nat) (ts':zo) (f:Nat),FAt w wz pb en ts l A C ts' f) (λ_ wz=>u7 pb wz)
 case atStart=>exact⟨[],none,0,ts,501,hF0⟩
 case round =>
  clear hF0;obtain⟨l,A,C,ts',f,hn3,hres,hrow,hat,hkp,hsz,hfuel,hlen,heq⟩:=hrel
  obtain⟨f,rfl⟩:∃f',f=f'+1:=⟨f-1,by omega⟩
  obtain⟨AP,CP,hHP,hP1,hP2,hP3,-⟩:=id hat;have c0:=hHP.cell 0;have hstt:=hst;cases ts' with
  |nil =>
   rw[Fg]at heq;have heq:qA 501 en ts= .ok (l,[]):=by rw[heq];simp[pre]
   have HR:Hid _:=heq;have x0:=hn3.cell 0;have x1:=hn3.cell 1;have x2:=hn3.cell 2;have x3:=hn3.cell 3;have x4:=hn3.cell 4;have r0:=hres.cell 0;have r1:=hres.cell 1;have r2:=hres.cell 2;have r3:=hres.cell 3;have r4:=hres.cell 4;have f0:=hres.free 0;have f1:=hres.free 1;have f2:=hres.free 2;have f3:=hres.free 3;have f4:=hres.free 4;clear heq hst hstt
   go_wp2
   refine zY rfl rfl (hres.set5 _ _ _ _ _) rfl ⟨hkp.set5 (Nat.le_refl _) _ _ _ _ _,?_⟩;rw[HR.out];exact⟨A,C,rfl,(hrow.done.set5 (λk hk=>by omega) _ _ _ _ _).mono (λg hg=>by omega)⟩
  |cons t r =>
   rw[Jh]at heq;have hsc:=hst wr (t::r) hat;have hleft:=hat.left;have hLL:0<(t::r).length:=by simp
   have hn3d:ze wr.drew (w.heap.size+1) 24 #[.string ⟨#[102,105,108,101]⟩,.string ⟨#[]⟩,.int .i64 0,.int .i64 0,.slice A l.length C]:=hn3;have hsd:=hst wr.drew (t::r) hat
   have hkd:Kp pb w wr.drew:=⟨hkp.os,hkp.tape,hkp.output,hkp.size,hkp.block⟩
   have hrd:vl wr.drew (w.heap.size+2) l (.slice A l.length C):=hrow.kp (p:=pb) ⟨rfl,rfl,rfl,Nat.le_refl _,λ_ _ _=>rfl⟩ (by omega);have hresd:ze wr.drew w.heap.size 24 #[.string ⟨#[]⟩,.string ⟨#[]⟩,.int .i64 0,.int .i64 0,.slice none 0 0]:=hres;have hszd:w.heap.size+2≤wr.drew.heap.size:=hsz;have hsh:=λn r'=>Zj (en:=en) (ts:=t::r) (r:=r') (n:=n)
   generalize hL:(t::r).length=LL at hHP hP1 hP2 hP3 hLL hfuel hlen hleft hsh c0;generalize qi en (t::r)=R at hsd heq hsh;clear hsc hstt hst hL
   go_wp2
   refine vu (S:=λW=>ze W (w.heap.size+1) 24 #[.string ⟨#[102,105,108,101]⟩,.string ⟨#[]⟩,.int .i64 0,.int .i64 0,.slice A l.length C]) 7 (by kernel_rfl) hn3d (λhHeld=>?_);refine vK 0 (some 11) (.pointer (some ⟨w.heap.size+1,4,none⟩)) rfl rfl (λ_ _=>Z8 _ rfl _ rfl _) hHeld ?_;simp only[Act.put,zk,zj,zl];refine vK 1 (some 12) (.slice A l.length C) rfl rfl (λwz hz=>Vn _ rfl _ rfl _ _ (hz.cell 4)) hHeld ?_;simp only[Act.put,zk,zj,zl];refine vI 2 (some 13) (.pointer (some ⟨pb,0,none⟩)) hHeld ?_;simp only[Act.put,zk,zj,zl];refine fM 3 (some 14) 106 #[.pointer (some ⟨pb,0,none⟩)] (by kernel_rfl) rfl rfl (by rfl) (by kernel_rfl) hsd ?_;rintro e w4 ⟨hk4,hR4⟩;cases R with
   |error er =>
    obtain⟨c,q⟩:=er;refine .inr ⟨_,hR4,⟨rfl,hkd.trans hk4,?_⟩⟩;rw[heq];rfl
   |ok x =>
    obtain⟨n,r'⟩:=x;obtain⟨A4,C4,rfl,hn4,hp4⟩:=hR4;have hz4:=hk4.size;have hsh:=hsh n r' rfl;simp only at heq;rw[JD]at heq;have h34:ze w4 (w.heap.size+1) 24 #[.string ⟨#[102,105,108,101]⟩,.string ⟨#[]⟩,.int .i64 0,.int .i64 0,.slice A l.length C]:=hn3d.kp hk4 (by omega);have hr4:ze w4 w.heap.size 24 #[.string ⟨#[]⟩,.string ⟨#[]⟩,.int .i64 0,.int .i64 0,.slice none 0 0]:=hresd.kp hk4 (by omega);refine .inl ⟨_,rfl,h34,?_⟩;simp only[Act.put,zk,zj,zl];refine jp 4 (some 15) (.slice (some ⟨w4.heap.size,0,none⟩) 1 1) (w4.alloc (.cells (zR n (.slice A4 n.l.length C4)) 24)) (by kernel_rfl) rfl rfl (by rfl) (by kernel_rfl) (h34.alloc _) ?_;simp only[Act.put,zk,zj,zl];obtain⟨hrw,hnw,hbw⟩:=Qv hrd hk4 (by omega) hszd hn4 (.cells (zR n (.slice A4 n.l.length C4)) 24);obtain⟨v5,w5,hrun,hrow5,hb5,hg5⟩:=Zr (ty:=22) _ _ l _ hrw hbw (by omega) n A4 _ C4 hnw w4.heap.size (ze.new _ _ _);have h35:ze w5 (w.heap.size+1) 24 #[.string ⟨#[102,105,108,101]⟩,.string ⟨#[]⟩,.int .i64 0,.int .i64 0,.slice A l.length C]:=(h34.alloc _).below hb5 (by omega);have hr5:ze w5 w.heap.size 24 #[.string ⟨#[]⟩,.string ⟨#[]⟩,.int .i64 0,.int .i64 0,.slice none 0 0]:=(hr4.alloc _).below hb5 (by omega);obtain⟨A5,C5,rfl⟩:=hrow5.slice;refine jp 5 (some 16) (.slice A5 (l++ [n]).length C5) w5 (by kernel_rfl) rfl rfl (by rfl) (VN _ _ rfl (.slice A l.length C) (.slice (some ⟨w4.heap.size,0,none⟩) 1 1) rfl rfl _ 22 (by rfl) hrun) h35 ?_;simp only[Act.put,zk,zj,zl];refine vK 6 (some 17) (.pointer (some ⟨w.heap.size+1,4,none⟩)) rfl rfl (λ_ _=>Z8 _ rfl _ rfl _) h35 ?_;simp only[Act.put,zk,zj,zl];refine jA 7 none (w5.setCell ⟨w.heap.size+1,4,none⟩ (.slice A5 (l++ [n]).length C5)) (by kernel_rfl) rfl rfl (by rfl) (JA _ _ rfl _ rfl _ _ _ rfl _ _ (h35.cell 4) (h35.free 4)) (by kernel_rfl) ?_;have hz5:(w4.alloc (.cells (zR n (.slice A4 n.l.length C4)) 24)).heap.size≤w5.heap.size:=hb5.size;have hz5':w4.heap.size+1≤w5.heap.size:=by simpa using hz5
    have hFn:FAt w (w5.setCell ⟨w.heap.size+1,4,none⟩ (.slice A5 (l++ [n]).length C5)) pb en ts (l++ [n]) A5 C5 r' f:=by
     refine⟨h35.putP 4 _,hr5.other (by show w.heap.size≠w.heap.size+1;omega) _,?_,(((hp4.new _).low hb5 (by omega)).set (by show pb<w.heap.size+1;omega) _),?_,?_,by omega,?_,heq⟩
     ·obtain⟨vs,e1,e2,e3⟩:=hrow5
      exact⟨vs,e1,zI e2 (λg o e ho=>(Below.heap_setCell w5 _ _ g (by have:=(qy e2 e).2;show g≠w.heap.size+1;omega)).trans ho),λi h h'=>(e3 i h h').keep (λg o hg ho=>(Below.heap_setCell w5 _ _ g (by have:=hg.1;show g≠w.heap.size+1;omega)).trans ho)⟩
     ·exact(QO (hkd.trans hk4 |>.alloc _) (hb5.mono (by omega))).setNew (by show w.heap.size≤w.heap.size+1;omega) _
     ·simp;omega
     ·simp only[List.length_append,List.length_cons,List.length_nil];omega
    generalize w5.setCell ⟨w.heap.size+1,4,none⟩ (.slice A5 (l++ [n]).length C5)=w6 at hFn ⊢
    go_roundw
    case rel=>exact⟨_,_,_,_,_,_,_,_,_,_,_,_,_,⟨l++ [n],A5,C5,r',f,hFn⟩,rfl⟩
    case measure =>
     rw[hFn.at_.left];omega
theorem UG(p q r:Addr)(w:World):
 CallsD Tryz.prog 67 #[.pointer (some p),.pointer (some q),.pointer (some r)] .returning w λe u' w'=>e= .returned (.tuple #[])∧u'= .returning∧w'=w:=by
 refine callsD_of_wpS Tryz.func67 rfl λc₀ cs hu=>?_
 apply wpS_seq;apply wpS_region;simp[wpOpsS,go_sem,recoverD,hu,Tryz.ntmps67,Exit.thenS];apply wpS_seq;apply wpS_seq;apply wpS_region;simp[wpOpsS,go_sem,Exit.thenS];refine wpS_cond (t:=true) (by simp[Act.eval,Array.replicate]) ?_;simp only[if_true];refine wpS_of_wp (wp_ret ?_);cases c₀
 simp_all [bodyPostS,results,Tryz.results67,Exit.thenS]
theorem Ua(c k:Nat)(w:World):(Instr.typeAssert (.iface 127 (.agg #[.int .i64 (c:Nat),.int .i64 (k:Nat)])) 20 127 true).run Tryz.prog w= .ok (.tuple #[.agg #[.int .i64 (c:Nat),.int .i64 (k:Nat)],.bool true]) w:=by kernel_rfl
theorem zq{w:World}{g t:Nat}{cs:Array Value}(h:ze w g t cs):ze w.drew g t cs:=h
theorem zu{B:Nat}{a w:World}(h:Below B a w):Below B a w.drew:=⟨h.os,h.tape,h.output,h.size,h.block⟩
theorem ze.oth5{w:World}{g g' t:Nat}{cs:Array Value}(h:ze w g t cs)(hne:g≠g')(x0 x1 x2 x3 x4:Value):ze (ZB w g' x0 x1 x2 x3 x4) g t cs:=
 ((((h.other (p:=⟨g',0,none⟩) hne x0).other (p:=⟨g',1,none⟩) hne x1).other (p:=⟨g',2,none⟩) hne x2).other (p:=⟨g',3,none⟩) hne x3).other (p:=⟨g',4,none⟩) hne x4
theorem b5{w:World}{p:Nat}(x0 x1 x2 x3 x4 y z:Value)(o:Obj)(hp:p≤w.heap.size):Below p w ((((ZB w p x0 x1 x2 x3 x4).setCell ⟨p+1,0,none⟩ y).setCell ⟨p+2,0,none⟩ z).alloc o).drew:=by
 have h0:Below p w (((ZB w p x0 x1 x2 x3 x4).setCell ⟨p+1,0,none⟩ y).setCell ⟨p+2,0,none⟩ z):=(((((((Below.refl p w).setCell (p:=⟨p,0,none⟩) (Nat.le_refl p) x0).setCell (p:=⟨p,1,none⟩) (Nat.le_refl p) x1).setCell (p:=⟨p,2,none⟩) (Nat.le_refl p) x2).setCell (p:=⟨p,3,none⟩) (Nat.le_refl p) x3).setCell (p:=⟨p,4,none⟩) (Nat.le_refl p) x4).setCell (p:=⟨p+1,0,none⟩) (by show p≤p+1;omega) y).setCell (p:=⟨p+2,0,none⟩) (by show p≤p+2;omega) z;exact zu (h0.alloc (by have:=h0.size;omega) o)
theorem Jz(c k p:Nat)(x0 x1 x2 x3 x4 y z:Value)(w:World)(hp:ze w p 24 #[x0,x1,x2,x3,x4])(hq:ze w (p+1) 25 #[y])(hr:ze w (p+2) 3 #[z]):
 CallsD Tryz.prog 67 #[.pointer (some ⟨p,0,none⟩),.pointer (some ⟨p+1,0,none⟩),.pointer (some ⟨p+2,0,none⟩)] (.panicking (flt c k)) w λe u' w' =>
  e= .returned (.tuple #[])∧u'= .panicking [{ v:= .iface 127 (.agg #[.int .i64 (c:Nat),.int .i64 (k:Nat)]),recovered:=true }] ∧
  ze w' p 24 #[.string ⟨#[]⟩,.string ⟨#[]⟩,.int .i64 0,.int .i64 0,.slice none 0 0]∧ze w' (p+1) 25 #[.int .i64 (c:Nat)]∧ze w' (p+2) 3 #[.int .i64 (k:Nat)]∧Below p w w':=by
 have hl:=hr.lt;refine callsD_of_wpS Tryz.func67 rfl λc₀ cs hu=>?_
 have hu':c₀.mode= .panicking [{ v:= .iface 127 (.agg #[.int .i64 (c:Nat),.int .i64 (k:Nat)]),recovered:=false }]:=hu;apply wpS_seq;apply wpS_region;simp[wpOpsS,go_sem,recoverD,hu',Tryz.ntmps67,Exit.thenS];apply wpS_seq;apply wpS_seq;apply wpS_region;simp[wpOpsS,go_sem,Exit.thenS];refine wpS_cond (t:=false) (by simp[Act.eval,Array.replicate]) ?_;simp only[Bool.false_eq_true,if_false];refine wpS_of_wp (wp_skip ?_);simp only[Exit.thenS];apply wpS_seq;apply wpS_region;simp[wpOpsS,go_sem,Exit.thenS,Ua];apply wpS_seq;apply wpS_seq;apply wpS_region;simp[wpOpsS,go_sem,Exit.thenS];refine wpS_cond (t:=false) (by simp[Act.eval,Array.replicate]) ?_;simp only[Bool.false_eq_true,if_false];refine wpS_of_wp (wp_skip ?_);simp only[Exit.thenS];have a0:=hp.cell 0;have a1:=hp.cell 1;have a2:=hp.cell 2;have a3:=hp.cell 3;have a4:=hp.cell 4;have b0:=hp.free 0;have b1:=hp.free 1;have b2:=hp.free 2;have b3:=hp.free 3;have b4:=hp.free 4;have c0:=hq.cell 0;have c1:=hq.free 0;have d0:=hr.cell 0;have d1:=hr.free 0;have l0:=hp.lt;have l1:=hq.lt;refine wpS_of_wp ?_
 go_region
 all_goals
  refine⟨rfl,_,rfl,_,results_none rfl _ _ _,rfl,rfl,?_⟩
  exact⟨zq ((((hp.set5 _ _ _ _ _).other (p:=⟨p+1,0,none⟩) (by show p≠p+1;omega) _).other (p:=⟨p+2,0,none⟩) (by show p≠p+2;omega) _).alloc _),
   zq ((((hq.oth5 (g':=p) (by omega) _ _ _ _ _).putP 0 _).other (p:=⟨p+2,0,none⟩) (by show p+1≠p+2;omega) _).alloc _),
   zq ((((hr.oth5 (g':=p) (by omega) _ _ _ _ _).other (p:=⟨p+1,0,none⟩) (by show p+2≠p+1;omega) _).putP 0 _).alloc _),
   b5 _ _ _ _ _ _ _ _ (by omega)⟩
def zbC(w:World)(pb:Nat)(R:PR (List Nd))(e:Ending)(w':World):Prop:=Kp pb w w'∧match R with
 | .error (c,k)=>e= .returned (.tuple #[.agg #[.string ⟨#[]⟩,.string ⟨#[]⟩,.int .i64 0,.int .i64 0,.slice none 0 0],.int .i64 (c:Nat),.int .i64 (k:Nat)])
 | .ok (l,r)=>∃A C,e= .returned (.tuple #[.agg (zR (.mk ji [] 0 0 l) (.slice A l.length C)),.int .i64 0,.int .i64 (-1)])∧jB w' (λg=>w.heap.size≤g) l (.slice A l.length C)
def QI(w:World):World:=((w.alloc (.cells #[.string ⟨#[]⟩,.string ⟨#[]⟩,.int .i64 0,.int .i64 0,.slice none 0 0] 24)).alloc (.cells #[.int .i64 0] 25)).alloc (.cells #[.int .i64 0] 3)
theorem da(w:World):ze (QI w) w.heap.size 24 #[.string ⟨#[]⟩,.string ⟨#[]⟩,.int .i64 0,.int .i64 0,.slice none 0 0]:=((ze.new w _ _).alloc _).alloc _
theorem dk(w:World):ze (QI w) (w.heap.size+1) 25 #[.int .i64 0]:=by
 have:=(ze.new (w.alloc (.cells #[.string ⟨#[]⟩,.string ⟨#[]⟩,.int .i64 0,.int .i64 0,.slice none 0 0] 24)) 25 #[.int .i64 0]).alloc (.cells #[.int .i64 0] 3);rw[show(w.alloc (.cells #[.string ⟨#[]⟩,.string ⟨#[]⟩,.int .i64 0,.int .i64 0,.slice none 0 0] 24)).heap.size=w.heap.size+1 by simp]at this;exact this
theorem DU(w:World):ze (QI w) (w.heap.size+2) 3 #[.int .i64 0]:=by
 have:=ze.new ((w.alloc (.cells #[.string ⟨#[]⟩,.string ⟨#[]⟩,.int .i64 0,.int .i64 0,.slice none 0 0] 24)).alloc (.cells #[.int .i64 0] 25)) 3 #[.int .i64 0];rw[show((w.alloc (.cells #[.string ⟨#[]⟩,.string ⟨#[]⟩,.int .i64 0,.int .i64 0,.slice none 0 0] 24)).alloc (.cells #[.int .i64 0] 25)).heap.size=w.heap.size+2 by simp]at this;exact this
theorem Kg(w:World):Below w.heap.size w (QI w):=(((Below.refl _ _).alloc (Nat.le_refl _) _).alloc (by simp) _).alloc (by simp;omega) _
theorem U6(w:World):(QI w).heap.size=w.heap.size+3:=by simp[QI]
theorem Yj{tmps:Array Value}{W:World}{p q r:Nat}{x0 x1 x2 x3 x4 y z:Value}(h2:tmps[2]?.getD undef= .pointer (some ⟨p,0,none⟩))(h3:tmps[3]?.getD undef= .pointer (some ⟨q,0,none⟩))(h4:tmps[4]?.getD undef= .pointer (some ⟨r,0,none⟩))
 (ha:ze W p 24 #[x0,x1,x2,x3,x4]) (hb:ze W q 25 #[y]) (hc:ze W r 3 #[z]):(results Tryz.f36 tmps).run Tryz.prog W= .ok (.tuple #[.agg #[x0,x1,x2,x3,x4],y,z]) W:=by
 have q0:=ha.cell 0;have q1:=ha.cell 1;have q2:=ha.cell 2;have q3:=ha.cell 3;have q4:=ha.cell 4;have r0:=hb.cell 0;have s0:=hc.cell 0;simp only[results,Tryz.results36];simp[h2,h3,h4,go_sem,q0,q1,q2,q3,q4,r0,s0]
theorem Dx(pb en:Nat)(w:World)(ts:zo)(h:jF w pb ts en):Calls Tryz.prog 36 #[.pointer (some ⟨pb,0,none⟩)] w (zbC w pb (qA 501 en ts)):=by
 have hlt:=h.lt;have hf:=zaK pb en (QI w) ts (h.below (Kg w));have ha:=da w;have hb:=dk w;have hc:=DU w;have hz3:=U6 w;have hB3:=Kg w;cases hR:qA 501 en ts with
 |ok x =>
  obtain⟨l,r⟩:=x;rw[hR]at hf;clear hR h;unfold QI at hf ha hb hc hB3 hz3
  go_enter_defers Tryz.func36,Tryz.ntmps36
  go_wp2_with (first
   |((go_at_call 68)
     refine hf.mono ?_;rintro e w1 ⟨hk1,A,C,rfl,hn1⟩;have ha1:=ha.kp hk1 (by omega);have hb1:=hb.kp hk1 (by omega);have hc1:=hc.kp hk1 (by omega);have a0:=ha1.cell 0;have a1:=ha1.cell 1;have a2:=ha1.cell 2;have a3:=ha1.cell 3;have a4:=ha1.cell 4;have f0:=ha1.free 0;have f1:=ha1.free 1;have f2:=ha1.free 2;have f3:=ha1.free 3;have f4:=ha1.free 4;have b0:=hb1.cell 0;have g0:=hb1.free 0;have c0:=hc1.cell 0;have i0:=hc1.free 0;have la:=ha1.lt;have lb:=hb1.lt;have lc:=hc1.lt;(unfold zR)))
  refine leaves_cons (f:=67) (args:=#[.pointer (some ⟨w.heap.size,0,none⟩),.pointer (some ⟨w.heap.size+1,0,none⟩),.pointer (some ⟨w.heap.size+1+1,0,none⟩)]) (by simp) (by simp[go_sem]) ?_;refine(UG ⟨w.heap.size,0,none⟩ ⟨w.heap.size+1,0,none⟩ ⟨w.heap.size+1+1,0,none⟩ _).mono ?_;rintro e u' w'' ⟨rfl,rfl,rfl⟩;have n1:w.heap.size≠w.heap.size+1:=by omega
  have n2:w.heap.size≠w.heap.size+1+1:=by omega
  have n3:w.heap.size+1≠w.heap.size+1+1:=by omega
  have F1:=((ha1.set5 (.string (bs (Nd.mk ji [] 0 0 l).op)) (.string (bs (Nd.mk ji [] 0 0 l).s)) (.int .i64 (Nd.mk ji [] 0 0 l).n) (.int .i64 (Nd.mk ji [] 0 0 l).a) (.slice A l.length C)).other (p:=⟨w.heap.size+1,0,none⟩) n1 (.int .i64 0)).other (p:=⟨w.heap.size+1+1,0,none⟩) n2 (.int .i64 (-1));have F2:=((hb1.oth5 (g':=w.heap.size) (Ne.symm n1) (.string (bs (Nd.mk ji [] 0 0 l).op)) (.string (bs (Nd.mk ji [] 0 0 l).s)) (.int .i64 (Nd.mk ji [] 0 0 l).n) (.int .i64 (Nd.mk ji [] 0 0 l).a) (.slice A l.length C)).putP 0 (.int .i64 0)).other (p:=⟨w.heap.size+1+1,0,none⟩) n3 (.int .i64 (-1));have F3:=((hc1.oth5 (g':=w.heap.size) (Ne.symm n2) (.string (bs (Nd.mk ji [] 0 0 l).op)) (.string (bs (Nd.mk ji [] 0 0 l).s)) (.int .i64 (Nd.mk ji [] 0 0 l).n) (.int .i64 (Nd.mk ji [] 0 0 l).a) (.slice A l.length C)).other (p:=⟨w.heap.size+1,0,none⟩) (Ne.symm n3) (.int .i64 0)).putP 0 (.int .i64 (-1));have hK:Kp pb w w1:=zy hB3 hk1;have F4:=((hK.set5 (Nat.le_refl _) (.string (bs (Nd.mk ji [] 0 0 l).op)) (.string (bs (Nd.mk ji [] 0 0 l).s)) (.int .i64 (Nd.mk ji [] 0 0 l).n) (.int .i64 (Nd.mk ji [] 0 0 l).a) (.slice A l.length C)).setNew (q:=⟨w.heap.size+1,0,none⟩) (by show w.heap.size≤w.heap.size+1;omega) (.int .i64 0)).setNew (q:=⟨w.heap.size+1+1,0,none⟩) (by show w.heap.size≤w.heap.size+1+1;omega) (.int .i64 (-1));have hn2:jB w1 (λg=>w.heap.size+3≤g) l (.slice A l.length C):=hn1.mono (λg hg=>by rw[←hz3];exact hg);have F5:=(((hn2.set5 (g:=w.heap.size) (λk hk=>by have h3:w.heap.size+3≤k:=hk;omega) (.string (bs (Nd.mk ji [] 0 0 l).op)) (.string (bs (Nd.mk ji [] 0 0 l).s)) (.int .i64 (Nd.mk ji [] 0 0 l).n) (.int .i64 (Nd.mk ji [] 0 0 l).a) (.slice A l.length C)).keep (λg o hg ho=>(Below.heap_setCell _ ⟨w.heap.size+1,0,none⟩ (.int .i64 0) g (by have h3:w.heap.size+3≤g:=hg;show g≠w.heap.size+1;omega)).trans ho)).keep (λg o hg ho=>(Below.heap_setCell _ ⟨w.heap.size+1+1,0,none⟩ (.int .i64 (-1)) g (by have h3:w.heap.size+3≤g:=hg;show g≠w.heap.size+1+1;omega)).trans ho)).mono (Q:=λg=>w.heap.size≤g) (λg hg=>by have h3:w.heap.size+3≤g:=hg;omega);refine⟨_,Yj rfl rfl rfl F1 F2 F3,F4,A,C,rfl,F5⟩
 |error x =>
  obtain⟨c,k⟩:=x;rw[hR]at hf;clear hR h;unfold QI at hf ha hb hc hB3 hz3
  go_enter_defers Tryz.func36,Tryz.ntmps36
  go_wp2_with (first
   |((go_at_call 68)
     refine hf.mono ?_;rintro e w1 ⟨hk1,rfl⟩;have ha1:=ha.kp hk1 (by omega);have hb1:=hb.kp hk1 (by omega);(have hc1:=hc.kp hk1 (by omega))))
  refine leaves_cons (f:=67) (args:=#[.pointer (some ⟨w.heap.size,0,none⟩),.pointer (some ⟨w.heap.size+1,0,none⟩),.pointer (some ⟨w.heap.size+1+1,0,none⟩)]) (by simp) (by simp[go_sem]) ?_;refine(Jz c k w.heap.size _ _ _ _ _ _ _ _ ha1 hb1 hc1).mono ?_;rintro e u' w'' ⟨rfl,rfl,F1,F2,F3,hbl⟩
  have hK:Kp pb w w'':=⟨hbl.os.trans (hk1.os.trans hB3.os),hbl.tape.trans (hk1.tape.trans hB3.tape),hbl.output.trans (hk1.output.trans hB3.output),Nat.le_trans (zy hB3 hk1).size hbl.size,λi hi hn=>(hbl.block i hi).trans ((zy hB3 hk1).block i hi hn)⟩
  have hres:=Yj (tmps:=#[.pointer (some ⟨pb,0,none⟩),undef,.pointer (some ⟨w.heap.size,0,none⟩),.pointer (some ⟨w.heap.size+1,0,none⟩),.pointer (some ⟨w.heap.size+1+1,0,none⟩),Value.func (Fn.func 67) #[] #[.pointer (some ⟨w.heap.size,0,none⟩),.pointer (some ⟨w.heap.size+1,0,none⟩),.pointer (some ⟨w.heap.size+1+1,0,none⟩)],.pointer (some ⟨pb,0,none⟩),undef]) rfl rfl rfl F1 F2 F3;exact⟨_,hres,hK,rfl⟩
def zat(w:World)(R:Except (Nat×Nat) Nd)(e:Ending)(w':World):Prop:=Below w.heap.size w w'∧match R with
 | .error (c,k)=>e= .returned (.tuple #[.agg #[.string ⟨#[]⟩,.string ⟨#[]⟩,.int .i64 0,.int .i64 0,.slice none 0 0],.int .i64 (c:Nat),.int .i64 (k:Nat)])
 | .ok n=>∃A C,e= .returned (.tuple #[.agg (zR n (.slice A n.l.length C)),.int .i64 0,.int .i64 (-1)])∧jB w' (λg=>w.heap.size≤g) n.l (.slice A n.l.length C)
theorem Gz{w W:World}(h:Below w.heap.size w W)(x0 x1 x2 x3 x4:Value):Below w.heap.size w (ZB W w.heap.size x0 x1 x2 x3 x4):=
 ((((h.setCell (p:=⟨w.heap.size,0,none⟩) (Nat.le_refl _) x0).setCell (p:=⟨w.heap.size,1,none⟩) (Nat.le_refl _) x1).setCell (p:=⟨w.heap.size,2,none⟩) (Nat.le_refl _) x2).setCell (p:=⟨w.heap.size,3,none⟩) (Nat.le_refl _) x3).setCell (p:=⟨w.heap.size,4,none⟩) (Nat.le_refl _) x4
theorem XQ{w w1 w2:World}{o:Obj}(h:Below w.heap.size w w1)(hk:Kp w1.heap.size (w1.alloc o) w2):Below w.heap.size w w2:=by
 have h1:Below w.heap.size w (w1.alloc o):=h.alloc h.size o;have hz:=h.size;exact⟨hk.os.trans h1.os,hk.tape.trans h1.tape,hk.output.trans h1.output,Nat.le_trans h1.size hk.size,λk hk'=>(hk.block k (by have:=h1.size;omega) (λe=>by cases e;omega)).trans (h1.block k hk')⟩
theorem jF.start{w1:World}{base en:Nat}{A:Option Addr}{C:Nat}{ts:zo}(h:jE w1 base (.slice A ts.length C) ts)(hl:ts.length≤500):jF (w1.alloc (.cells #[.slice A ts.length C,.int .i64 (en:Nat)] 87)) w1.heap.size ts en:=by
 have hb:=zd w1 (.cells #[.slice A ts.length C,.int .i64 (en:Nat)] 87);by_cases hne:ts= []
 ·subst hne
  rcases h.2 with⟨e,_⟩|⟨g,cap,cur,e,_,_,hn,hm,_⟩
  ·cases e
   exact⟨none,0,ze.new _ _ _,Nat.le_refl _,by omega,hl,λh=>absurd rfl h⟩
  ·cases e
   exact⟨_,C,ze.new _ _ _,hn,hm,hl,λh=>absurd rfl h⟩
 ·obtain⟨g,C',e,h1,h2,h3,h4,_,hc⟩:=h.lies hne
  cases e;refine⟨_,C,ze.new _ _ _,h3,h4,hl,λ_=>⟨g,0,rfl,h2,λi hi j hj=>?_⟩⟩;rw[Nat.zero_add];exact(hb.cell (p:=⟨g,i*4+j,none⟩) h2).trans (hc i hi j hj)
theorem xc{fn:Func}{R:Ending→World→Prop}{a:Act}{W:World}{s t u g:Nat}{x0 x1 x2 x3 x4 y z:Value}(hr:fn.results= #[.cell s 24,.tmp t,.tmp u])(hs:a.tmps[s]?.getD undef= .pointer (some ⟨g,0,none⟩))(ht:a.tmps[t]?.getD undef=y)(hu:a.tmps[u]?.getD undef=z)(hH:ze W g 24 #[x0,x1,x2,x3,x4])(hd:a.defers= [])(h:R (.returned (.tuple #[.agg #[x0,x1,x2,x3,x4],y,z])) W):bodyPost Tryz.prog fn R .ret a W:=by
 have q0:=hH.cell 0;have q1:=hH.cell 1;have q2:=hH.cell 2;have q3:=hH.cell 3;have q4:=hH.cell 4;exact bodyPost_ret (by simp only[results,hr];simp[hs,ht,hu,go_sem,q0,q1,q2,q3,q4]) hd h
theorem Zh(x:List UInt8)(w:World)(hm:x.length≤maxLen):Calls Tryz.prog 18 #[.string (bs x)] w (zat w (jn x)):=by
 have hz:=zi x;have hm':=hm;unfold maxLen at hm';cases hS:j9 x with
 |error r =>
  obtain⟨er,o⟩:=r;have hsc:=λW=>JQ W x hm hS
  have her:=(X3 hS).1;have her':¬((er:Nat):Int)=0:=by omega
  have hP:jn x= .error (er,o):=by unfold jn;rw[hS]
  rw[hP];clear hP hS her;go_enter Tryz.func18,Tryz.ntmps18
  go_wp2_with (first
   |((go_at_call 35)
     refine(hsc _).mono ?_;rintro e w1 ⟨rfl,hb1⟩;have ha1:=(ze.new w 24 #[.string ⟨#[]⟩,.string ⟨#[]⟩,.int .i64 0,.int .i64 0,.slice none 0 0]).below hb1 (by simp);have a0:=ha1.cell 0;have a1:=ha1.cell 1;have a2:=ha1.cell 2;have a3:=ha1.cell 3;have a4:=ha1.cell 4;have f0:=ha1.free 0;have f1:=ha1.free 1;have f2:=ha1.free 2;have f3:=ha1.free 3;have f4:=ha1.free 4;(have la:=ha1.lt)))
  refine xc rfl rfl rfl rfl (ha1.set5 _ _ _ _ _) rfl ⟨?_,rfl⟩;have hb:Below w.heap.size w w1:=(zd w _).trans (hb1.mono (by simp));exact Gz hb _ _ _ _ _
 |ok ts =>
  have hsc:=λW=>Yw W x hm hS
  have hlen:=(vQ hS).1
  have hP:jn x=match qA 501 x.length ts with | .error e=> .error e| .ok (l,_)=> .ok (.mk ji [] 0 0 l):=by
   unfold jn;rw[hS];simp only;cases qA 501 x.length ts with
   |error e=>rfl
   |ok y=>rfl
  rw[hP];have hpd:=λpb W h=>Dx pb x.length W ts h
  generalize qA 501 x.length ts=R at hpd ⊢;clear hP hS
  obtain⟨M,hM⟩:∃M,M=ts.length:=⟨_,rfl⟩
  have HM:Hid (M=ts.length):=hM;rw[←hM]at hsc;clear hM;cases R with
  |error r =>
   obtain⟨c,k⟩:=r;go_enter Tryz.func18,Tryz.ntmps18
   go_wp2_with (first
    |((go_at_call 35)
      refine(hsc _).mono ?_;rintro e w1 ⟨A,C,rfl,hb1,htr⟩;have ha1:=(ze.new w 24 #[.string ⟨#[]⟩,.string ⟨#[]⟩,.int .i64 0,.int .i64 0,.slice none 0 0]).below hb1 (by simp);have la:=ha1.lt;have hb:Below w.heap.size w w1:=(zd w _).trans (hb1.mono (by simp));(have hPA:jF (w1.alloc (.cells #[.slice A M C,.int .i64 (x.length:Nat)] 87)) w1.heap.size ts x.length:=by(rw[HM.out]at htr ⊢;exact jF.start htr hlen)))
    |((go_at_call 36)
      refine(hpd _ _ hPA).mono ?_;rintro e w2 ⟨hk2,rfl⟩;have ha2:=(ha1.alloc (.cells #[.slice A M C,.int .i64 (x.length:Nat)] 87)).kp hk2 (by omega);have a0:=ha2.cell 0;have a1:=ha2.cell 1;have a2:=ha2.cell 2;have a3:=ha2.cell 3;have a4:=ha2.cell 4;have f0:=ha2.free 0;have f1:=ha2.free 1;have f2:=ha2.free 2;have f3:=ha2.free 3;have f4:=ha2.free 4;have lb:=ha2.lt;(have hbb:Below w.heap.size w w2:=XQ hb hk2)))
   exact xc rfl rfl rfl rfl (ha2.set5 _ _ _ _ _) rfl ⟨Gz hbb _ _ _ _ _,rfl⟩
  |ok r =>
   obtain⟨l,r⟩:=r;go_enter Tryz.func18,Tryz.ntmps18
   go_wp2_with (first
    |((go_at_call 35)
      refine(hsc _).mono ?_;rintro e w1 ⟨A,C,rfl,hb1,htr⟩;have ha1:=(ze.new w 24 #[.string ⟨#[]⟩,.string ⟨#[]⟩,.int .i64 0,.int .i64 0,.slice none 0 0]).below hb1 (by simp);have la:=ha1.lt;have hb:Below w.heap.size w w1:=(zd w _).trans (hb1.mono (by simp));(have hPA:jF (w1.alloc (.cells #[.slice A M C,.int .i64 (x.length:Nat)] 87)) w1.heap.size ts x.length:=by(rw[HM.out]at htr ⊢;exact jF.start htr hlen)))
    |((go_at_call 36)
      refine(hpd _ _ hPA).mono ?_;rintro e w2 ⟨hk2,A2,C2,rfl,hn2⟩;have ha2:=(ha1.alloc (.cells #[.slice A M C,.int .i64 (x.length:Nat)] 87)).kp hk2 (by omega);have a0:=ha2.cell 0;have a1:=ha2.cell 1;have a2:=ha2.cell 2;have a3:=ha2.cell 3;have a4:=ha2.cell 4;have f0:=ha2.free 0;have f1:=ha2.free 1;have f2:=ha2.free 2;have f3:=ha2.free 3;have f4:=ha2.free 4;have lb:=ha2.lt;have hbb:Below w.heap.size w w2:=XQ hb hk2;(simp only[zR])))
   refine xc rfl rfl rfl rfl (ha2.set5 _ _ _ _ _) rfl ⟨Gz hbb _ _ _ _ _,A2,C2,rfl,?_⟩;have hz1:(w1.alloc (.cells #[.slice A M C,.int .i64 (x.length:Nat)] 87)).heap.size=w1.heap.size+1:=by simp
   have hn3:jB w2 (λg=>w1.heap.size+1≤g) l (.slice A2 l.length C2):=hn2.mono (λg hg=>by rw[←hz1];exact hg);exact(hn3.set5 (g:=w.heap.size) (λk hk=>by have h3:w1.heap.size+1≤k:=hk;omega) _ _ _ _ _).mono (λg hg=>by have h3:w1.heap.size+1≤g:=hg;omega)
inductive Rd (w:World):List Nd→Value→Prop where
 |mk (l:List Nd) (vs:List Value) (A:Option Addr) (C:Nat):vs.length=l.length→l.length≤C→C≤9223372036854775807 →
   (∀i (h:i<l.length) (h':i<vs.length),∃g off,A=some ⟨g,off,none⟩∧g<w.heap.size∧∀j,j<5→w.cell? ⟨g,off+i*5+j,none⟩=(zR l[i] vs[i])[j]?) →
   (∀i (h:i<l.length) (h':i<vs.length),Rd w l[i].l vs[i])→(∀x ∈ l,x.s.length<maxLen∧x.op.length<maxLen)→Rd w l (.slice A l.length C)
theorem Rd.grow{w w':World}{l:List Nd}{v:Value}(h:Rd w l v)(hb:Below w.heap.size w w'):Rd w' l v:=by
 induction h with
 |mk l vs A C h1 h2 h3 h4 h5 h6 ih =>
  refine .mk l vs A C h1 h2 h3 (λi h h'=>?_) ih h6;obtain⟨g,off,e,hg,hc⟩:=h4 i h h';exact⟨g,off,e,Nat.lt_of_lt_of_le hg hb.size,λj hj=>(hb.cell (p:=⟨g,off+i*5+j,none⟩) hg).trans (hc j hj)⟩
theorem Rd.slice{w:World}{l:List Nd}{v:Value}(h:Rd w l v):∃A C,v= .slice A l.length C∧l.length≤C∧C≤9223372036854775807:=by
 cases h with
 |mk l vs A C h1 h2 h3=>exact⟨A,C,rfl,h2,h3⟩
theorem Rd.get{w:World}{l:List Nd}{A:Option Addr}{L C:Nat}(h:Rd w l (.slice A L C))(i:Nat)(hi:i<l.length):∃g off u,A=some ⟨g,off,none⟩∧g<w.heap.size∧(∀j,j<5→w.cell? ⟨g,off+i*5+j,none⟩=(zR l[i] u)[j]?)∧Rd w l[i].l u∧l[i].s.length<maxLen∧l[i].op.length<maxLen:=by
 cases h with
 |mk l vs A C h1 h2 h3 h4 h5 h6 =>
  obtain⟨g,off,e,hg,hc⟩:=h4 i hi (by omega);obtain⟨h7,h8⟩:=h6 _ (List.getElem_mem hi);exact⟨g,off,vs[i],e,hg,hc,h5 i hi (by omega),h7,h8⟩
inductive VT:Nd→Prop where
 |mk (op s:List UInt8) (n a:Int) (l:List Nd):op.length≤1000→s.length≤1000→(∀x ∈ l,VT x)→VT (.mk op s n a l)
theorem VT.s{n:Nd}(h:VT n):n.s.length≤1000:=by cases h;assumption
theorem VT.op{n:Nd}(h:VT n):n.op.length≤1000:=by cases h;assumption
theorem VT.l{n:Nd}(h:VT n):∀x ∈ n.l,VT x:=by cases h;assumption
theorem jB.rd{w:World}{P:Nat→Prop}{l:List Nd}{v:Value}(h:jB w P l v)(hs:∀x ∈ l,VT x):Rd w l v:=by
 induction h with
 |mk l vs v h1 h2 h3 h4 ih =>
  have hk:=λi (h:i<l.length) (h':i<vs.length)=>ih i h h' (hs _ (List.getElem_mem h)).l
  have hm:∀x ∈ l,x.s.length<maxLen∧x.op.length<maxLen:=λx hx=>⟨by have:=(hs x hx).s;unfold maxLen;omega,by have:=(hs x hx).op;unfold maxLen;omega⟩
  rcases h2.2 with⟨rfl,h0⟩|⟨g,cap,cur,rfl,_,hg,hn,hm2,hsz,ht⟩
  ·have :l= []:=List.length_eq_zero_iff.1 h0
   subst this;exact .mk [] vs none 0 h1 (Nat.le_refl _) (by omega) (λi h=>by simp at h) hk hm
  ·refine .mk l vs (some ⟨g,0,none⟩) cap h1 hn hm2 (λi h h'=>⟨g,0,rfl,(Array.getElem?_eq_some_iff.1 hg).1,λj hj=>?_⟩) hk hm
   rw[Nat.zero_add,←dy l vs i h h' j hj,←ht,List.getElem?_take_of_lt (by omega),Array.getElem?_toList];exact cell_of_row w g (i*5+j) cur _ _ hg
def ZO(x:List UInt8):Option (Tk×Nat):=match j9 x with
 | .ok [t]=>some t
 |_=>none
def yo(o:Option (Tk×Nat)):Value:=match o with
 |some t=> .tuple #[.agg (qt t.1 t.2),.bool true]
 |none=> .tuple #[.agg #[.int .i64 0,.string ⟨#[]⟩,.int .i64 0,.int .i64 0],.bool false]
def vg(x:List UInt8):Bool:=match ZO x with
 |some t=>jl t.1&&t.1.s==x
 |none=>false
def Vs(x:List UInt8):Bool:=match ZO (36::x)with
 |some t=>t.1.kind==2&&t.1.s==x
 |none=>false
theorem KF{fn:Func}{R:Ending→World→Prop}{a:Act}{W:World}{s t g:Nat}{x0 x1 x2 x3 y:Value}(hr:fn.results= #[.cell s 100,.tmp t])(hs:a.tmps[s]?.getD undef= .pointer (some ⟨g,0,none⟩))(ht:a.tmps[t]?.getD undef=y)(hH:ze W g 100 #[x0,x1,x2,x3])(hd:a.defers= [])(h:R (.returned (.tuple #[.agg #[x0,x1,x2,x3],y])) W):bodyPost Tryz.prog fn R .ret a W:=by
 have q0:=hH.cell 0;have q1:=hH.cell 1;have q2:=hH.cell 2;have q3:=hH.cell 3;exact bodyPost_ret (by simp only[results,hr];simp[hs,ht,go_sem,q0,q1,q2,q3]) hd h
theorem zbd{w W:World}(h:Below w.heap.size w W)(x0 x1 x2 x3:Value):Below w.heap.size w ((((W.setCell ⟨w.heap.size,0,none⟩ x0).setCell ⟨w.heap.size,1,none⟩ x1).setCell ⟨w.heap.size,2,none⟩ x2).setCell ⟨w.heap.size,3,none⟩ x3):=
 (((h.setCell (p:=⟨w.heap.size,0,none⟩) (Nat.le_refl _) x0).setCell (p:=⟨w.heap.size,1,none⟩) (Nat.le_refl _) x1).setCell (p:=⟨w.heap.size,2,none⟩) (Nat.le_refl _) x2).setCell (p:=⟨w.heap.size,3,none⟩) (Nat.le_refl _) x3
theorem uV(x:List UInt8)(w:World)(hm:x.length≤maxLen):Calls Tryz.prog 112 #[.string (bs x)] w λe w'=>e= .returned (yo (ZO x))∧Below w.heap.size w w':=by
 have other:∀(A:Option Addr) (L C:Nat) (er o:Int),¬(L:Int)=1→(L:Int)≤9223372036854775807→(∀W,Calls Tryz.prog 35 #[.string (bs x)] W λe w'=>∃A C,e= .returned (.tuple #[.slice A L C,.int .i64 er,.int .i64 o])∧Below W.heap.size W w')→ZO x=none →
  Calls Tryz.prog 112 #[.string (bs x)] w λe w'=>e= .returned (yo (ZO x))∧Below w.heap.size w w':=by
  intro A L C er o hL hL2 hsc hn;rw[hn];clear hn hm;go_enter Tryz.func112,Tryz.ntmps112
  go_wp2_with (first
   |((go_at_call 35)
     refine(hsc _).mono ?_;rintro e w1 ⟨A,C,rfl,hb1⟩;have ha1:=(ze.new w 100 #[.int .i64 0,.string ⟨#[]⟩,.int .i64 0,.int .i64 0]).below hb1 (by simp);have a0:=ha1.cell 0;have a1:=ha1.cell 1;have a2:=ha1.cell 2;have a3:=ha1.cell 3;have f0:=ha1.free 0;have f1:=ha1.free 1;have f2:=ha1.free 2;have f3:=ha1.free 3;(have la:=ha1.lt)))
  have hb:Below w.heap.size w w1:=(zd w _).trans (hb1.mono (by simp));exact KF rfl rfl rfl (ha1.set4 _ _ _ _) rfl ⟨rfl,zbd hb _ _ _ _⟩
 cases hS:j9 x with
 |error r =>
  obtain⟨er,o⟩:=r;exact other none 0 0 er o (by decide) (by decide) (λW=>(JQ W x hm hS).mono λe w' h=>⟨none,0,h.1,h.2⟩) (by unfold ZO;rw[hS])
 |ok ts =>
  have hlen:=(vQ hS).1;have hsc:=λW=>Yw W x hm hS
  by_cases h1:ts.length=1
  ·obtain⟨t,rfl⟩:=List.length_eq_one_iff.1 h1
   have hT:ZO x=some t:=by unfold ZO;rw[hS]
   rw[hT]
   have hsc':∀W,Calls Tryz.prog 35 #[.string (bs x)] W λe w'=>∃g C,e= .returned (.tuple #[.slice (some ⟨g,0,none⟩) 1 C,.int .i64 0,.int .i64 (-1)])∧Below W.heap.size W w'∧g<w'.heap.size∧1≤C∧C≤9223372036854775807∧w'.cell? ⟨g,0,none⟩=some (.int .i64 (t.1.kind:Nat))∧w'.cell? ⟨g,1,none⟩=some (.string (bs t.1.s))∧w'.cell? ⟨g,2,none⟩=some (.int .i64 (t.1.n:Nat))∧w'.cell? ⟨g,3,none⟩=some (.int .i64 (t.2:Nat)):=by
    intro W;refine(hsc W).mono ?_;rintro e w' ⟨A,C,rfl,hb,htr⟩;obtain⟨g,C',e,q1,q2,q3,q4,_,hc⟩:=htr.lies (by simp);cases e;exact⟨g,C,rfl,hb,q2,q3,q4,hc 0 (by simp) 0 (by decide),hc 0 (by simp) 1 (by decide),hc 0 (by simp) 2 (by decide),hc 0 (by simp) 3 (by decide)⟩
   clear hsc hT hS h1 other hm hlen;go_enter Tryz.func112,Tryz.ntmps112
   go_wp2_with (first
    |((go_at_call 35)
      refine(hsc' _).mono ?_;rintro e w1 ⟨g,C,rfl,hb1,hgl,hC1,hC2,d0,d1,d2,d3⟩;have ha1:=(ze.new w 100 #[.int .i64 0,.string ⟨#[]⟩,.int .i64 0,.int .i64 0]).below hb1 (by simp);have a0:=ha1.cell 0;have a1:=ha1.cell 1;have a2:=ha1.cell 2;have a3:=ha1.cell 3;have f0:=ha1.free 0;have f1:=ha1.free 1;have f2:=ha1.free 2;have f3:=ha1.free 3;(have la:=ha1.lt)))
   have hb:Below w.heap.size w w1:=(zd w _).trans (hb1.mono (by simp));exact KF rfl rfl rfl (ha1.set4 _ _ _ _) rfl ⟨rfl,zbd hb _ _ _ _⟩
  ·refine other none ts.length 0 0 (-1) (by omega) (by omega) (λW=>(hsc W).mono λe w' ⟨A,C,h,hb,_⟩=>⟨A,C,h,hb⟩) ?_
   unfold ZO;rw[hS]
   match ts,h1 with
   | [],_=>rfl
   | [t],h=>exact absurd rfl h
   |_::_::_,_=>rfl
def j2(n:Int):Bool:=decide (0≤n)&&decide (n≤999999999)
def jT(re:Nd→Bool):Kd→Nd→Bool
 | .nu,n=>n.op==vk&&n.s== []&&j2 n.n&&decide (n.l.length=0)
 | .na,n=>n.op==js&&vg n.s&&decide (n.n=0)&&decide (n.l.length=0)
 | .ex,n=>re n
def Qu(ks:List Kd)(i:Nat):Kd:=ks.getD (min i (ks.length-1)) .ex
def Xa(ks:List Kd)(more:Bool)(L:Nat):Bool:= !(decide (ks.length=0))&& !(decide (L<ks.length))&& !(decide (ks.length<L)&& !more)
def jM(re:Nd→Bool)(n:Nd):Bool:=Xa (zr n.op).1 (zr n.op).2 n.l.length&&(List.range n.l.length).all λi=>jT re (Qu (zr n.op).1 i) (n.l.getD i (.mk [] [] 0 0 []))
def zL:Nat→Nd→Bool
 |0,_=>false
 |d+1,n=>decide (n.n=0)&&(if n.op=j8 then vg n.s&&decide (n.l.length=0)else n.s== []&&jM (zL d) n)
def xM(n:Nd):Bool:=n.op==Zn&&Vs n.s&&decide (n.n=0)&&decide (n.l.length=0)
def vG(n:Nd):Bool:=vg n.s &&
 (if n.op=zc∨n.op=zg then j2 n.n&&decide (n.l.length=0)
  else if n.op=zT∨n.op=zD then decide (n.n=0)&&decide (n.l.length=1)&&xM (n.l.getD 0 (.mk [] [] 0 0 []))
  else if n.op=zp then decide (n.n=0)&&decide (n.l.length=1)&&zL 12 (n.l.getD 0 (.mk [] [] 0 0 []))
  else if n.op=zv then(decide (n.n=0)||decide (n.n=1))&&decide (n.l.length=0)
  else false)
def xP(n:Nd):Bool:=n.l.all vG&&n.op==ji&&n.s== []&&decide (n.n=0)
theorem ZK(n:Nd)(A:Option Addr)(L C:Nat)(w:World):Calls Tryz.prog 81 #[.agg (zR n (.slice A L C))] w λe w'=>e= .returned (.bool (j2 n.n))∧Below w.heap.size w w':=by
 unfold j2 zR;generalize n.n=N;by_cases h1:0≤N
 ·by_cases h2:N≤999999999
  all_goals
   go_enter Tryz.func81,Tryz.ntmps81
   go_wp2
   go_ret
   exact⟨zU (by simp[h1,h2]),zd _ _⟩
 ·go_enter Tryz.func81,Tryz.ntmps81
  go_wp2
  go_ret
  refine⟨zU ?_,zd _ _⟩;rw[Bool.eq_iff_iff];simp;omega
theorem dM{w w1 w2:World}{o o':Obj}(h:Below (w.alloc o).heap.size (w.alloc o) w1)(h2:Below (w1.alloc o').heap.size (w1.alloc o') w2):Below w.heap.size w w2:=by
 have s1:=h.size;have s2:=h2.size;simp at s1 s2;exact(((zd w o).trans (h.mono (by simp))).alloc (by omega) o').trans (h2.mono (by simp;omega))
theorem y7{w w1:World}{o o':Obj}(h:Below (w.alloc o).heap.size (w.alloc o) w1):Below w.heap.size w (w1.alloc o'):=by
 have s1:=h.size;simp at s1;exact((zd w o).trans (h.mono (by simp))).alloc (by omega) o'
theorem vh(n:Nd)(A:Option Addr)(L C:Nat)(w:World)(hm:n.s.length≤maxLen):Calls Tryz.prog 80 #[.agg (zR n (.slice A L C))] w λe w'=>e= .returned (.bool (vg n.s))∧Below w.heap.size w w':=by
 have htk:=λW=>uV n.s W hm
 unfold vg zR;have hs:=zx n.s;cases hT:ZO n.s with
 |none =>
  rw[hT]at htk;simp only[yo]at htk;clear hT;go_enter Tryz.func80,Tryz.ntmps80
  go_wp2_with (go_at_call 112;refine(htk _).mono ?_;rintro e w1 ⟨rfl,hb1⟩)
  go_ret
  exact⟨rfl,y7 hb1⟩
 |some t =>
  rw[hT]at htk;simp only[yo,qt]at htk;have hnm:=dW t.1 t.2;have hs2:=zx t.1.s;simp only;generalize jl t.1=B at hnm ⊢;unfold qt at hnm;clear hT;cases B
  all_goals
   go_enter Tryz.func80,Tryz.ntmps80
   go_wp2_with (first
    |((go_at_call 112)
      refine(htk _).mono ?_;rintro e w1 ⟨rfl,hb1⟩;have hN1:=(ze.new w _ _).below hb1 (by simp);(have hlN:=hN1.lt))
    |((go_at_call 113)
      refine(hnm _).mono ?_;rintro e w2 ⟨rfl,hb2⟩;have hN2:=(hN1.alloc _).below hb2 (by simp;omega);have n1:=hN2.cell 1;have hT2:=(ze.new w1 _ _).below hb2 (by simp);(have t1:=hT2.cell 1)))
   go_ret
   exact⟨zU (by simp),dM hb1 hb2⟩
structure jZ (w:World) (n:Nd) (A:Option Addr) (C:Nat):Prop where
 rd:Rd w n.l (.slice A n.l.length C)
 s:n.s.length<maxLen
 op:n.op.length<maxLen
theorem jZ.grow{w w':World}{n:Nd}{A:Option Addr}{C:Nat}(h:jZ w n A C)(hb:Below w.heap.size w w'):jZ w' n A C:=⟨h.rd.grow hb,h.s,h.op⟩
theorem jZ.len{w:World}{n:Nd}{A:Option Addr}{C:Nat}(h:jZ w n A C):n.l.length≤C∧C≤9223372036854775807:=by
 obtain⟨A',C',e,h1,h2⟩:=h.rd.slice;cases e;exact⟨h1,h2⟩
abbrev Ve(w:World)(b:Bool)(e:Ending)(w':World):Prop:=e= .returned (.bool b)∧Below w.heap.size w w'
theorem FX(d N:Nat)(k:Kd)(n:Nd)(A:Option Addr)(C:Nat)(w:World)(h:jZ w n A C)(hN:N≤13)
 (hx:∀W,jZ W n A C→Calls Tryz.prog 83 #[.agg (zR n (.slice A n.l.length C)),.int .i64 (N:Nat)] W (Ve W (zL d n))):
 Calls Tryz.prog 140 #[.agg (zR n (.slice A n.l.length C)),.string (bs k.w),.int .i64 (N:Nat)] w (Ve w (jT (zL d) k n)):=by
 have hlen:=h.len;have hnum:=λW=>ZK n A n.l.length C W
 have hnam:=λW=>vh n A n.l.length C W (by have:=h.s;omega)
 have hs:=zx n.s;have ho:=zx n.op;have hx':=λW hW=>hx W (h.grow hW)
 cases k with
 |nu =>
  show Calls Tryz.prog 140 #[.agg (zR n (.slice A n.l.length C)),.string ⟨#[110,117,109]⟩,.int .i64 (N:Nat)] w _;simp only[jT];have hL:((n.l.length:Nat):Int)≤9223372036854775807:=by omega
  generalize n.l.length=L at *;unfold zR at *;generalize j2 n.n=B at *;clear hx hx' h hnam
  cases e1:(n.op==vk)
  ·have e1':(n.op== [110,117,109])=false:=e1
   go_enter Tryz.func140,Tryz.ntmps140
   go_wp2
   go_ret
   exact⟨rfl,zd _ _⟩
  ·have e1':(n.op== [110,117,109])=true:=e1
   cases e2:(n.s== [])
   ·go_enter Tryz.func140,Tryz.ntmps140
    go_wp2
    go_ret
    exact⟨rfl,zd _ _⟩
   ·by_cases hL0:L=0
    ·subst hL0
     cases B
     all_goals
      go_enter Tryz.func140,Tryz.ntmps140
      go_wp2_with (go_at_call 81;refine(hnum _).mono ?_;rintro e w1 ⟨rfl,hb1⟩;have hN1:=(ze.new w _ _).below hb1 (by simp);have n4:=hN1.cell 4)
      go_ret
      exact⟨rfl,(zd w _).trans (hb1.mono (by simp))⟩
    ·have hL0':¬(L:Int)=0:=by omega
     cases B
     all_goals
      go_enter Tryz.func140,Tryz.ntmps140
      go_wp2_with (go_at_call 81;refine(hnum _).mono ?_;rintro e w1 ⟨rfl,hb1⟩;have hN1:=(ze.new w _ _).below hb1 (by simp);have n4:=hN1.cell 4)
      go_ret
      exact⟨by simp[hL0],(zd w _).trans (hb1.mono (by simp))⟩
 |na =>
  show Calls Tryz.prog 140 #[.agg (zR n (.slice A n.l.length C)),.string ⟨#[110,97,109,101]⟩,.int .i64 (N:Nat)] w _;simp only[jT];have hL:((n.l.length:Nat):Int)≤9223372036854775807:=by omega
  generalize n.l.length=L at *;unfold zR at *;generalize vg n.s=B at *;clear hx hx' h hnum
  cases e1:(n.op==js)
  ·have e1':(n.op== [110,97,109,101])=false:=e1
   go_enter Tryz.func140,Tryz.ntmps140
   go_wp2
   go_ret
   exact⟨rfl,zd _ _⟩
  ·have e1':(n.op== [110,97,109,101])=true:=e1
   cases B
   ·go_enter Tryz.func140,Tryz.ntmps140
    go_wp2_with (go_at_call 80;refine(hnam _).mono ?_;rintro e w1 ⟨rfl,hb1⟩)
    go_ret
    exact⟨rfl,(zd w _).trans (hb1.mono (by simp))⟩
   ·generalize n.n=M at *
    by_cases hM:M=0
    ·subst hM
     by_cases hL0:L=0
     ·subst hL0
      go_enter Tryz.func140,Tryz.ntmps140
      go_wp2_with (go_at_call 80;refine(hnam _).mono ?_;rintro e w1 ⟨rfl,hb1⟩;have hN1:=(ze.new w _ _).below hb1 (by simp);have n2:=hN1.cell 2;have n4:=hN1.cell 4)
      go_ret
      exact⟨rfl,(zd w _).trans (hb1.mono (by simp))⟩
     ·have hL0':¬(L:Int)=0:=by omega
      go_enter Tryz.func140,Tryz.ntmps140
      go_wp2_with (go_at_call 80;refine(hnam _).mono ?_;rintro e w1 ⟨rfl,hb1⟩;have hN1:=(ze.new w _ _).below hb1 (by simp);have n2:=hN1.cell 2;have n4:=hN1.cell 4)
      go_ret
      exact⟨by simp[hL0],(zd w _).trans (hb1.mono (by simp))⟩
    ·go_enter Tryz.func140,Tryz.ntmps140
     go_wp2_with (go_at_call 80;refine(hnam _).mono ?_;rintro e w1 ⟨rfl,hb1⟩;have hN1:=(ze.new w _ _).below hb1 (by simp);have n2:=hN1.cell 2)
     go_ret
     exact⟨by simp[hM],(zd w _).trans (hb1.mono (by simp))⟩
 |ex =>
  show Calls Tryz.prog 140 #[.agg (zR n (.slice A n.l.length C)),.string ⟨#[101,120,112,114]⟩,.int .i64 (N:Nat)] w _;simp only[jT];generalize zL d n=B at *;unfold zR at *;clear hnum hnam hx;go_enter Tryz.func140,Tryz.ntmps140
  go_wp2_with (go_at_call 83;refine(hx' _ (zd _ _)).mono ?_;rintro e w1 ⟨rfl,hb1⟩)
  go_ret
  exact⟨rfl,(zd w _).trans (hb1.mono (by simp))⟩
theorem U1(d N:Nat)(n:Nd)(A:Option Addr)(C:Nat)(w:World)(h:jZ w n A C)(hN:N≤12)
 (hx:∀W,jZ W n A C→Calls Tryz.prog 114 #[.agg (zR n (.slice A n.l.length C)),.int .i64 (N:Nat)] W (Ve W (jM (zL d) n))):
 Calls Tryz.prog 83 #[.agg (zR n (.slice A n.l.length C)),.int .i64 (N:Nat)] w (Ve w (zL (d+1) n)):=by
 have hlen:=h.len;have hnam:=λW=>vh n A n.l.length C W (by have:=h.s;omega)
 have hs:=zx n.s;have ho:=zx n.op;have hx':=λW hW=>hx W (h.grow hW)
 have hN':¬(12:Int)<(N:Int):=by omega
 simp only[zL];have hL:((n.l.length:Nat):Int)≤9223372036854775807:=by omega
 generalize jM (zL d) n=B at *;generalize n.l.length=L at *;unfold zR at *;generalize n.n=M at *;clear hx h;by_cases hM:M=0
 ·subst hM
  by_cases hu:n.op=j8
  ·have e1':(n.op== [117,115,101])=true:=by rw[hu];rfl
   rw[if_pos hu];generalize vg n.s=D at *;clear hx' hu;cases D
   ·go_enter Tryz.func83,Tryz.ntmps83
    go_wp2_with (go_at_call 80;refine(hnam _).mono ?_;rintro e w1 ⟨rfl,hb1⟩)
    go_ret
    exact⟨rfl,(zd w _).trans (hb1.mono (by simp))⟩
   ·by_cases hL0:L=0
    ·subst hL0
     go_enter Tryz.func83,Tryz.ntmps83
     go_wp2_with (go_at_call 80;refine(hnam _).mono ?_;rintro e w1 ⟨rfl,hb1⟩;have hN1:=(ze.new w _ _).below hb1 (by simp);have n4:=hN1.cell 4)
     go_ret
     exact⟨rfl,(zd w _).trans (hb1.mono (by simp))⟩
    ·have hL0':¬(L:Int)=0:=by omega
     go_enter Tryz.func83,Tryz.ntmps83
     go_wp2_with (go_at_call 80;refine(hnam _).mono ?_;rintro e w1 ⟨rfl,hb1⟩;have hN1:=(ze.new w _ _).below hb1 (by simp);have n4:=hN1.cell 4)
     go_ret
     exact⟨by simp[hL0],(zd w _).trans (hb1.mono (by simp))⟩
  ·have e1':(n.op== [117,115,101])=false:=by rw[beq_eq_false_iff_ne];exact hu
   rw[if_neg hu];clear hnam hu
   cases e2:(n.s== [])
   ·go_enter Tryz.func83,Tryz.ntmps83
    go_wp2
    go_ret
    exact⟨rfl,zd _ _⟩
   ·go_enter Tryz.func83,Tryz.ntmps83
    go_wp2_with (go_at_call 114;refine(hx' _ (zd _ _)).mono ?_;rintro e w1 ⟨rfl,hb1⟩)
    go_ret
    exact⟨rfl,(zd w _).trans (hb1.mono (by simp))⟩
 ·clear hnam hx'
  go_enter Tryz.func83,Tryz.ntmps83
  go_wp2
  go_ret
  exact⟨by simp,zd _ _⟩
theorem KN(n:Nd)(A:Option Addr)(C:Nat)(w:World):
 Calls Tryz.prog 83 #[.agg (zR n (.slice A n.l.length C)),.int .i64 13] w (Ve w (zL 0 n)):=by
 simp only[zL];unfold zR;go_enter Tryz.func83,Tryz.ntmps83
 go_wp2
 go_ret
 exact⟨rfl,zd _ _⟩
theorem XD{P:Program}{ops:Array Oper}{Q:Exit→Act→World→Prop}{md:Region.Mode}{S:World→Prop}{oi:Oper}(m:Nat)(d:Option Tmp)(v:Value){n:Nat}{listed:Array Bool}{a:Act}{w:World}(hr:Region.ready md ops listed= [m])
 (hi:ops[m]?=some oi) (hd:oi.dst=d) (hw:Region.wanted oi (yielded ops a.tmps)=true)
 (hrun:(execOp a.eval oi).run P w= .ok (.value v) w) (he:Region.ready md ops (listed.setIfInBounds m true)= [])
 (h:Q .normal (a.put d v) w):vA P md ops Q S m (n+1) listed a w:=by
 subst hd;refine⟨λh0=>absurd (hr ▸ h0) (by simp),λj hj=>?_⟩;obtain rfl:j=m:=by rw[hr]at hj;simpa using hj
 refine wpOp_step hi (λK hK=>?_);rw[if_pos hw];unfold Oper.wp;rw[hrun];refine hK _ _ ⟨λh=>absurd rfl h,?_⟩;cases n with
 |zero=>exact⟨he,h⟩
 |succ n=>exact⟨λ_=>h,by rw[he];simp⟩
theorem VS{o:Oper}{a:Act}(x:Operand)(ho:o.op= .load 24 x)(g:Nat)(hx:a.eval x= .pointer (some ⟨g,0,none⟩)){x0 x1 x2 x3 x4:Value}(w:World)(h:ze w g 24 #[x0,x1,x2,x3,x4]):(execOp a.eval o).run Tryz.prog w= .ok (.value (.agg #[x0,x1,x2,x3,x4])) w:=by
 have q0:=h.cell 0;have q1:=h.cell 1;have q2:=h.cell 2;have q3:=h.cell 3;have q4:=h.cell 4;unfold execOp;simp only[ho,hx];go_simp
theorem Ys{x:Int}(h0: -9223372036854775808≤x)(h1:x≤9223372036854775807):IntKind.i64.wrap x=x:=by
 simp[IntKind.wrap,IntKind.signed,IntKind.bits];omega
theorem KJ{o:Oper}{a:Act}(x:Operand)(ho:o.op= .binOp .sub 3 x (.const (.int .i64 1)) 3)(K:Nat)(hK:1≤K)(hK3:K≤3)(hx:a.eval x= .int .i64 (K:Nat))(w:World):(execOp a.eval o).run Tryz.prog w= .ok (.value (.int .i64 ((K-1:Nat):Int))) w:=by
 have e:((K-1:Nat):Int)=(K:Int)-1:=by omega
 have h1:(1:Int)≤(K:Int):=by omega
 have h3:(K:Int)≤3:=by omega
 rw[e];unfold execOp;simp only[ho,hx];go_simp;exact Ys (by omega) (by omega)
theorem Ke{o:Oper}{a:Act}(x:Operand)(ho:o.op= .binOp .add 3 x (.const (.int .i64 1)) 3)(N:Nat)(hN:N≤12)(hx:a.eval x= .int .i64 (N:Nat))(w:World):(execOp a.eval o).run Tryz.prog w= .ok (.value (.int .i64 ((N+1:Nat):Int))) w:=by
 have e:((N+1:Nat):Int)=(N:Int)+1:=by omega
 have h3:(N:Int)≤12:=by omega
 have h0:(0:Int)≤(N:Int):=by omega
 rw[e];unfold execOp;simp only[ho,hx];go_simp;exact Ys (by omega) (by omega)
theorem Fb{o:Oper}{a:Act}(x y:Operand)(ho:o.op= .call { callee:= .builtin .min,args:=#[x,y],argTypes:=#[3,3] })(n m:Nat)(hx:a.eval x= .int .i64 (n:Nat))(hy:a.eval y= .int .i64 (m:Nat))(w:World):(execOp a.eval o).run Tryz.prog w= .ok (.value (.int .i64 ((min n m:Nat):Int))) w:=by
 unfold execOp;simp only[ho,resolve,invoke,builtin,List.map_toArray,List.map_cons,List.map_nil,hx,hy];by_cases h:n<m
 ·have e:min n m=n:=by omega
  have h':(n:Int)<(m:Int):=by omega
  rw[e];go_simp;omega
 ·have e:min n m=m:=by omega
  have h':¬(n:Int)<(m:Int):=by omega
  rw[e];go_simp;omega
theorem Kv{re:Nd→Bool}{n:Nd}(h:Xa (zr n.op).1 (zr n.op).2 n.l.length=false):jM re n=false:=by
 unfold jM;rw[h];rfl
theorem za{w w':World}{p:Addr}{v:Value}(h:Below w.heap.size w w')(hc:w.cell? p=some v):w'.cell? p=some v:=(h.cell (World.block_lt_of_cell? w p hc)).trans hc
theorem KU{ks:List Kd}{i:Nat}(h:0<ks.length):∃hk:min i (ks.length-1)<ks.length,ks[min i (ks.length-1)]=Qu ks i:=by
 have hk:min i (ks.length-1)<ks.length:=by omega
 exact⟨hk,by unfold Qu;rw[List.getD_eq_getElem?_getD,List.getElem?_eq_getElem hk];rfl⟩
theorem Vw(p:Nat→Bool)(i:Nat):(List.range (i+1)).all p=((List.range i).all p&&p i):=by
 rw[List.range_succ,List.all_append];simp
theorem kK(d N:Nat)(n:Nd)(A:Option Addr)(C:Nat)(w:World)(h:jZ w n A C)(hN:N≤12)
 (hx:∀m A' C' W,jZ W m A' C'→Calls Tryz.prog 83 #[.agg (zR m (.slice A' m.l.length C')),.int .i64 ((N+1:Nat):Int)] W (Ve W (zL d m))):
 Calls Tryz.prog 114 #[.agg (zR n (.slice A n.l.length C)),.int .i64 (N:Nat)] w (Ve w (jM (zL d) n)):=by
 have hlen:=h.len;have ho:=zx n.op;have hin:=Vo n.op;have hpt:=λk m A' C' W (hr:jZ W m A' C')=>FX d (N+1) k m A' C' W hr (by omega) (λW hW=>hx m A' C' W hW)
 have hpsh:=Kv (re:=zL d) (n:=n)
 obtain⟨K,hK⟩:∃K,K=(zr n.op).1.length:=⟨_,rfl⟩
 have hK3:K≤3:=by rw[hK];exact Zk n.op
 have HK:Hid (K=(zr n.op).1.length):=hK;generalize hB:(zr n.op).2=B at hin hpsh;have HB:Hid ((zr n.op).2=B):=hB
 obtain⟨L,hL⟩:∃L,L=n.l.length:=⟨_,rfl⟩
 have HL:Hid (L=n.l.length):=hL;have hL2:L≤9223372036854775807:=by omega
 have HF:Hid (Xa (zr n.op).1 B L=(!(decide (K=0))&& !(decide (L<K))&& !(decide (K<L)&& !B))):=by show _=_;unfold Xa;rw[←hK]
 have hfe:Xa (zr n.op).1 B L=false→jM (zL d) n=false:=by rw[hL];exact hpsh
 rw[←hL];clear hpsh hx hK hB hL;cases hft:Xa (zr n.op).1 B L with
 |false =>
  rw[hfe hft]
  have hcs:K=0∨(K≠0∧L<K)∨(K≠0∧K<L∧B=false):=by
   rw[HF.out]at hft;by_cases a1:K=0
   ·exact .inl a1
   ·by_cases a2:L<K
    ·exact .inr (.inl ⟨a1,a2⟩)
    ·refine .inr (.inr ⟨a1,?_⟩)
     simp[a1]at hft;have a3:=hft (by omega);exact⟨a3.1,a3.2⟩
  clear hfe hft HF hpt h;unfold zR;rcases hcs with a1|⟨a1,a2⟩|⟨a1,a2,rfl⟩
  ·have b1:((K:Nat):Int)=0:=by omega
   go_enter Tryz.func114,Tryz.ntmps114
   go_wp2_with (first
    |((go_at_call 139)
      refine(hin _).mono ?_;rintro e w1 ⟨v,rfl,hb1,hs1⟩;(obtain⟨A8,L8,C8,rfl⟩:∃A L C,v= .slice A L C:=by(rcases hs1 with⟨_,rfl⟩|⟨g,rfl,_⟩<;>exact⟨_,_,_,rfl⟩));obtain⟨e8,l8,c8,g8⟩:=hs1.get;rw[←HK.out]at e8;have e8':=e8.symm;subst e8';have hN1:=(ze.new w _ _).below hb1 (by simp);(have n4:=hN1.cell 4)))
   go_ret
   exact⟨rfl,(zd w _).trans (hb1.mono (by simp))⟩
  ·have b1:¬((K:Nat):Int)=0:=by omega
   have b2:((L:Nat):Int)<((K:Nat):Int):=by omega
   go_enter Tryz.func114,Tryz.ntmps114
   go_wp2_with (first
    |((go_at_call 139)
      refine(hin _).mono ?_;rintro e w1 ⟨v,rfl,hb1,hs1⟩;(obtain⟨A8,L8,C8,rfl⟩:∃A L C,v= .slice A L C:=by(rcases hs1 with⟨_,rfl⟩|⟨g,rfl,_⟩<;>exact⟨_,_,_,rfl⟩));obtain⟨e8,l8,c8,g8⟩:=hs1.get;rw[←HK.out]at e8;have e8':=e8.symm;subst e8';have hN1:=(ze.new w _ _).below hb1 (by simp);(have n4:=hN1.cell 4)))
   go_ret
   exact⟨rfl,(zd w _).trans (hb1.mono (by simp))⟩
  ·have b1:¬((K:Nat):Int)=0:=by omega
   have b2:¬((L:Nat):Int)<((K:Nat):Int):=by omega
   have b3:((K:Nat):Int)<((L:Nat):Int):=by omega
   go_enter Tryz.func114,Tryz.ntmps114
   go_wp2_with (first
    |((go_at_call 139)
      refine(hin _).mono ?_;rintro e w1 ⟨v,rfl,hb1,hs1⟩;(obtain⟨A8,L8,C8,rfl⟩:∃A L C,v= .slice A L C:=by(rcases hs1 with⟨_,rfl⟩|⟨g,rfl,_⟩<;>exact⟨_,_,_,rfl⟩));obtain⟨e8,l8,c8,g8⟩:=hs1.get;rw[←HK.out]at e8;have e8':=e8.symm;subst e8';have hN1:=(ze.new w _ _).below hb1 (by simp);(have n4:=hN1.cell 4)))
   go_ret
   exact⟨rfl,(zd w _).trans (hb1.mono (by simp))⟩
 |true =>
  have hcs:K≠0∧¬L<K∧(K<L→B=true):=by
   rw[HF.out]at hft;simp only[Bool.and_eq_true,Bool.not_eq_true',decide_eq_false_iff_not,Bool.and_eq_false_iff,Bool.not_eq_false']at hft;refine⟨hft.1.1,hft.1.2,λhlt=>?_⟩;rcases hft.2 with h|h
   ·exact absurd hlt h
   ·exact h
  have hP:jM (zL d) n=(List.range L).all λi=>jT (zL d) (Qu (zr n.op).1 i) (n.l.getD i (.mk [] [] 0 0 [])):=by
   unfold jM;rw[HB.out,←HL.out,hft,Bool.true_and]
  rw[hP];obtain⟨b1,b2,b3⟩:=hcs;have b1':¬((K:Nat):Int)=0:=by omega
  have b2':¬((L:Nat):Int)<((K:Nat):Int):=by omega
  have hb3:(((K:Nat):Int)<((L:Nat):Int)∧B=true)∨¬((K:Nat):Int)<((L:Nat):Int):=by
   by_cases hlt:K<L
   ·exact .inl ⟨by omega,b3 hlt⟩
   ·exact .inr (by omega)
  clear hfe hft HF hP b3;generalize hp:(λi=>jT (zL d) (Qu (zr n.op).1 i) (n.l.getD i (.mk [] [] 0 0 [])))=p;have HP:Hid (∀i,p i=jT (zL d) (Qu (zr n.op).1 i) (n.l.getD i (.mk [] [] 0 0 []))):=λi=>by rw[←hp]
  clear hp;have hrd:=h;rw[show(zR n (.slice A L C))= #[.string (bs n.op),.string (bs n.s),.int .i64 n.n,.int .i64 n.a,.slice A L C]from rfl];rcases hb3 with⟨b3,rfl⟩|b3
  all_goals
   go_enter Tryz.func114,Tryz.ntmps114
   go_wp2_with (first
    |((go_at_call 139)
      refine(hin _).mono ?_;rintro e w1 ⟨v,rfl,hb1,hs1⟩;(obtain⟨A8,L8,C8,rfl⟩:∃A L C,v= .slice A L C:=by(rcases hs1 with⟨_,rfl⟩|⟨g,rfl,_⟩<;>exact⟨_,_,_,rfl⟩));obtain⟨e8,l8,c8,g8⟩:=hs1.get;rw[←HK.out]at e8;have e8':=e8.symm;subst e8';have hN1:=(ze.new w _ _).below hb1 (by simp);have n4:=hN1.cell 4;(have hbw:Below w.heap.size w w1:=(zd w _).trans (hb1.mono (by simp)))))
   have hA0:(List.range 0).all p=true:=rfl;obtain⟨gk,rfl,-⟩:=g8 0 (by rw[←HK.out];omega);clear g8 n4 hN1
   go_loopw [41] (λz wz=>∃i:Nat,i≤L∧z= .int .i64 (i:Nat)∧Below w1.heap.size w1 wz∧(List.range i).all p=true) (λz _=>L-(intOf z).toNat)
   case atStart=>exact⟨0,Nat.zero_le _,rfl,Below.refl _ _,hA0⟩
   case round =>
    clear hA0;obtain⟨i,hi,rfl,hbz,hall⟩:=hrel;have HA:Hid ((List.range i).all p=true):=hall;clear hall;by_cases hiL:i<L
    ·have hiL2:(i:Int)<(L:Int):=by omega
     have hiL':i<n.l.length:=by rw[←HL.out];exact hiL
     have hbwr:Below w.heap.size w wr:=hbw.trans (hbz.mono hbw.size);have hR:=(hrd.grow hbwr).rd;rw[←HL.out]at hR;obtain⟨g,off,u,rfl,hg,hc,hru,hsu,hou⟩:=hR.get i hiL'
     obtain⟨m,hm⟩:∃m,m=n.l[i]:=⟨_,rfl⟩
     rw[←hm]at hc hru hsu hou;obtain⟨Au,Cu,rfl,-,-⟩:=hru.slice;have d0:=hc 0 (by decide);have d1:=hc 1 (by decide);have d2:=hc 2 (by decide);have d3:=hc 3 (by decide);have d4:=hc 4 (by decide);simp only[Nat.add_zero]at d0;simp only[zR]at d0 d1 d2 d3 d4;obtain⟨hk,hkg⟩:=KU (ks:=(zr n.op).1) (i:=i) (by rw[←HK.out];omega)
     obtain⟨k,hkk⟩:∃k,k=Qu (zr n.op).1 i:=⟨_,rfl⟩
     have hsw:=hs1.below hbz;obtain⟨gk',ek,hck⟩:=hsw.get.2.2.2 _ hk;cases ek;rw[hkg,←hkk,←HK.out]at hck;have hp1:p i=jT (zL d) k m:=by rw[HP.out i,←hkk,hm,List.getD_eq_getElem?_getD,List.getElem?_eq_getElem hiL'];rfl
     have HP1:Hid (p i=jT (zL d) k m):=hp1;have hpm:=λW hW=>hpt k m Au Cu W (jZ.grow (w:=wr) ⟨hru,hsu,hou⟩ hW)
     generalize jT (zL d) k m=V at hpm HP1;clear hp1 hkg hkk hm hc hR hpt hin hsw hk
     go_wp2
     obtain⟨W0,hW0⟩:∃W,W=wr.alloc (.cells #[.string (bs m.op),.string (bs m.s),.int .i64 m.n,.int .i64 m.a,.slice Au m.l.length Cu] 24):=⟨_,rfl⟩
     have hbW0:Below wr.heap.size wr W0:=by rw[hW0];exact zd _ _
     have hH0:ze W0 wr.heap.size 24 #[.string (bs m.op),.string (bs m.s),.int .i64 m.n,.int .i64 m.a,.slice Au m.l.length Cu]:=by rw[hW0];exact ze.new _ _ _
     have hck0:W0.cell? ⟨gk,min i (K-1),none⟩=some (.string (bs k.w)):=za hbW0 hck;rw[←hW0];clear hW0;refine vu (S:=λW=>ze W wr.heap.size 24 #[.string (bs m.op),.string (bs m.s),.int .i64 m.n,.int .i64 m.a,.slice Au m.l.length Cu]∧W.cell? ⟨gk,min i (K-1),none⟩=some (.string (bs k.w))) 12 (by kernel_rfl) ⟨hH0,hck0⟩ (λhHeld=>?_);refine yT 0 [11] (some 46) (.agg #[.string (bs m.op),.string (bs m.s),.int .i64 m.n,.int .i64 m.a,.slice Au m.l.length Cu]) rfl rfl (by decide) (by kernel_rfl) (by kernel_rfl) (by kernel_rfl) (by kernel_rfl) (by kernel_rfl) (λ_ _ _ h=>h) (by rfl) (λwz hz=>VS _ rfl _ rfl _ hz.1) hHeld ?_;simp only[Act.put,zk,zj,zl];refine yT 1 [7,8,11] (some 47) (.slice (some ⟨gk,0,none⟩) K C8) rfl rfl (by decide) (by kernel_rfl) (by kernel_rfl) (by kernel_rfl) (by kernel_rfl) (by kernel_rfl) (λ_ _ _ h=>h) (by rfl) (λ_ _=>rfl) hHeld ?_;simp only[Act.put,zk,zj,zl];refine yT 2 [6,7,8,11] (some 48) (.int .i64 (i:Nat)) rfl rfl (by decide) (by kernel_rfl) (by kernel_rfl) (by kernel_rfl) (by kernel_rfl) (by kernel_rfl) (λ_ _ _ h=>h) (by rfl) (λ_ _=>rfl) hHeld ?_;simp only[Act.put,zk,zj,zl];refine yT 3 [4,5,6,7,8,11] (some 49) (.slice (some ⟨gk,0,none⟩) K C8) rfl rfl (by decide) (by kernel_rfl) (by kernel_rfl) (by kernel_rfl) (by kernel_rfl) (by kernel_rfl) (λ_ _ _ h=>h) (by rfl) (λ_ _=>rfl) hHeld ?_;simp only[Act.put,zk,zj,zl];refine yT 4 [5,6,7,8,11] (some 50) (.int .i64 (K:Nat)) rfl rfl (by decide) (by kernel_rfl) (by kernel_rfl) (by kernel_rfl) (by kernel_rfl) (by kernel_rfl) (λ_ _ _ h=>h) (by rfl) (λwz _=>Qf 104 9 Tryz.underlying104 _ rfl _ _ _ rfl wz) hHeld ?_;simp only[Act.put,zk,zj,zl];refine yT 5 [6,7,8,11] (some 51) (.int .i64 ((K-1:Nat):Int)) rfl rfl (by decide) (by kernel_rfl) (by kernel_rfl) (by kernel_rfl) (by kernel_rfl) (by kernel_rfl) (λ_ _ _ h=>h) (by rfl) (λwz _=>KJ _ rfl K (by omega) hK3 rfl wz) hHeld ?_;simp only[Act.put,zk,zj,zl];refine yT 6 [7,8,11] (some 52) (.int .i64 ((min i (K-1):Nat):Int)) rfl rfl (by decide) (by kernel_rfl) (by kernel_rfl) (by kernel_rfl) (by kernel_rfl) (by kernel_rfl) (λ_ _ _ h=>h) (by rfl) (λwz _=>Fb _ _ rfl i (K-1) rfl rfl wz) hHeld ?_;simp only[Act.put,zk,zj,zl];refine yT 7 [8,11] (some 53) (.pointer (some ⟨gk,0+min i (K-1),none⟩)) rfl rfl (by decide) (by kernel_rfl) (by kernel_rfl) (by kernel_rfl) (by kernel_rfl) (by kernel_rfl) (λ_ _ _ h=>h) (by rfl) (λwz _=>Zl 104 _ _ rfl gk 0 (min i (K-1)) K C8 9 rfl rfl Tryz.underlying104 (by kernel_rfl) (by omega) wz) hHeld ?_;simp only[Act.put,zk,zj,zl];refine yT 8 [11] (some 54) (.string (bs k.w)) rfl rfl (by decide) (by kernel_rfl) (by kernel_rfl) (by kernel_rfl) (by kernel_rfl) (by kernel_rfl) (λ_ _ _ h=>h) (by rfl) (λwz hz=>yi _ _ rfl (.inl rfl) _ rfl _ _ (by rw[Nat.zero_add];exact hz.2)) hHeld ?_;simp only[Act.put,zk,zj,zl];refine yT 9 [10,11] (some 55) (.int .i64 (N:Nat)) rfl rfl (by decide) (by kernel_rfl) (by kernel_rfl) (by kernel_rfl) (by kernel_rfl) (by kernel_rfl) (λ_ _ _ h=>h) (by rfl) (λ_ _=>rfl) hHeld ?_;simp only[Act.put,zk,zj,zl];refine yT 10 [11] (some 56) (.int .i64 ((N+1:Nat):Int)) rfl rfl (by decide) (by kernel_rfl) (by kernel_rfl) (by kernel_rfl) (by kernel_rfl) (by kernel_rfl) (λ_ _ _ h=>h) (by rfl) (λwz _=>Ke _ rfl N hN rfl wz) hHeld ?_;simp only[Act.put,zk,zj,zl];refine fu 11 (some 57) 140 #[.agg #[.string (bs m.op),.string (bs m.s),.int .i64 m.n,.int .i64 m.a,.slice Au m.l.length Cu],.string (bs k.w),.int .i64 ((N+1:Nat):Int)] (by kernel_rfl) rfl rfl (by rfl) (by kernel_rfl) (hpm W0.drew (zu hbW0)) ?_;rintro e w4 ⟨rfl,hb4⟩
     have hb4':Below W0.heap.size W0 w4:=⟨hb4.os,hb4.tape,hb4.output,hb4.size,hb4.block⟩
     refine⟨_,rfl,⟨hH0.below hb4' hH0.lt,za hb4' hck0⟩,?_⟩;simp only[Act.put,zk,zj,zl];have hbN:Below w1.heap.size w1 w4:=(hbz.trans (hbW0.mono hbz.size)).trans (hb4'.mono (by have:=hbz.size;have:=hbW0.size;omega));clear hck0 hck hH0;cases V with
     |true =>
      refine XD 12 (some 58) (.bool false) (by kernel_rfl) rfl rfl (by rfl) (by kernel_rfl) (by kernel_rfl) ?_;simp only[Act.put,zk,zj,zl]
      go_wp2
      go_roundw
      case rel=>exact⟨i+1,by omega,by go_num,hbN,by rw[Vw,HA.out,HP1.out];rfl⟩
      case measure=>simp[intOf];omega
     |false =>
      refine XD 12 (some 58) (.bool true) (by kernel_rfl) rfl rfl (by rfl) (by kernel_rfl) (by kernel_rfl) ?_;simp only[Act.put,zk,zj,zl]
      go_wp2
      go_ret
      refine⟨zU ?_,hbw.trans (hbN.mono hbw.size)⟩
      symm
      rw[List.all_eq_false];exact⟨i,List.mem_range.2 hiL,by rw[HP1.out];decide⟩
    ·have hiL2:i=L:=by omega
     subst hiL2
     go_wp2
     go_ret
     exact⟨zU HA.out.symm,hbw.trans (hbz.mono hbw.size)⟩
theorem Df(d:Nat):∀(N:Nat) (n:Nd) (A:Option Addr) (C:Nat) (w:World),N+d=13→jZ w n A C→Calls Tryz.prog 83 #[.agg (zR n (.slice A n.l.length C)),.int .i64 (N:Nat)] w (Ve w (zL d n)):=by
 induction d with
 |zero =>
  intro N n A C w hN h;have :N=13:=by omega
  subst this;exact KN n A C w
 |succ d ih =>
  intro N n A C w hN h;exact U1 d N n A C w h (by omega) (λW hW=>kK d N n A C W hW (by omega) (λm A' C' W' h'=>ih (N+1) m A' C' W' (by omega) h'))
theorem ux(n:Nd)(A:Option Addr)(L C:Nat)(w:World)(hm:n.s.length<maxLen)(hlL:L=n.l.length)(hL:L≤9223372036854775807):Calls Tryz.prog 82 #[.agg (zR n (.slice A L C))] w (Ve w (xM n)):=by
 have htk:∀W,Calls Tryz.prog 112 #[.string (⟨#[36]⟩++bs n.s)] W λe w'=>e= .returned (yo (ZO (36::n.s)))∧Below W.heap.size W w':=by
  intro W;have e:(⟨#[36]⟩:ByteArray)++bs n.s=bs (36::n.s):=by rw[show(⟨#[36]⟩:ByteArray)=bs [36]from rfl,qE];rfl
  rw[e];exact uV (36::n.s) W (by simp only[List.length_cons];omega)
 have hsz:=zi n.s;have hsz2:((bs n.s).size:Int)<9223372036854775807:=by unfold maxLen at hm;omega
 unfold xM Vs;rw[←hlL];unfold zR;have hs:=zx n.s;have ho:=zx n.op;generalize n.n=M at *;clear hlL
 cases e1:(n.op==Zn)
 ·have e1':(n.op== [104,101,120])=false:=e1
  generalize ZO (36::n.s)=O at *;cases O with
  |none =>
   simp only[yo]at htk;go_enter Tryz.func82,Tryz.ntmps82
   go_wp2_with (go_at_call 112;refine(htk _).mono ?_;rintro e w1 ⟨rfl,hb1⟩;have hN1:=(ze.new w _ _).below hb1 (by simp);have n0:=hN1.cell 0;have hlN:=hN1.lt)
   go_ret
   exact⟨rfl,y7 hb1⟩
  |some t =>
   simp only[yo,qt]at htk;go_enter Tryz.func82,Tryz.ntmps82
   go_wp2_with (go_at_call 112;refine(htk _).mono ?_;rintro e w1 ⟨rfl,hb1⟩;have hN1:=(ze.new w _ _).below hb1 (by simp);have n0:=hN1.cell 0;have hlN:=hN1.lt)
   go_ret
   exact⟨rfl,y7 hb1⟩
 ·have e1':(n.op== [104,101,120])=true:=e1
  cases hO:ZO (36::n.s)with
  |none =>
   rw[hO]at htk;simp only[yo]at htk;clear hO;go_enter Tryz.func82,Tryz.ntmps82
   go_wp2_with (go_at_call 112;refine(htk _).mono ?_;rintro e w1 ⟨rfl,hb1⟩;have hN1:=(ze.new w _ _).below hb1 (by simp);have n0:=hN1.cell 0;have hlN:=hN1.lt)
   go_ret
   exact⟨rfl,y7 hb1⟩
  |some t =>
   rw[hO]at htk;simp only[yo,qt]at htk;obtain⟨⟨K,S,V⟩,q⟩:=t;simp only at htk ⊢;have hs2:=zx S;clear hO;by_cases h2:K=2
   ·subst h2
    have htk':∀W,Calls Tryz.prog 112 #[.string (⟨#[36]⟩++bs n.s)] W λe w'=>e= .returned (.tuple #[.agg #[.int .i64 2,.string (bs S),.int .i64 (V:Nat),.int .i64 (q:Nat)],.bool true])∧Below W.heap.size W w':=htk
    clear htk
    cases e3:(S==n.s)
    ·go_enter Tryz.func82,Tryz.ntmps82
     go_wp2_with (go_at_call 112;refine(htk' _).mono ?_;rintro e w1 ⟨rfl,hb1⟩;have hN1:=(ze.new w _ _).below hb1 (by simp);have n0:=hN1.cell 0;have n1:=hN1.cell 1;have hlN:=hN1.lt)
     go_ret
     exact⟨rfl,y7 hb1⟩
    ·by_cases hM:M=0
     ·subst hM
      by_cases hL0:L=0
      ·subst hL0
       go_enter Tryz.func82,Tryz.ntmps82
       go_wp2_with (go_at_call 112;refine(htk' _).mono ?_;rintro e w1 ⟨rfl,hb1⟩;have hN1:=(ze.new w _ _).below hb1 (by simp);have n0:=hN1.cell 0;have n1:=hN1.cell 1;have n2:=hN1.cell 2;have n4:=hN1.cell 4;have hlN:=hN1.lt)
       go_ret
       exact⟨rfl,y7 hb1⟩
      ·have hL0':¬(L:Int)=0:=by omega
       go_enter Tryz.func82,Tryz.ntmps82
       go_wp2_with (go_at_call 112;refine(htk' _).mono ?_;rintro e w1 ⟨rfl,hb1⟩;have hN1:=(ze.new w _ _).below hb1 (by simp);have n0:=hN1.cell 0;have n1:=hN1.cell 1;have n2:=hN1.cell 2;have n4:=hN1.cell 4;have hlN:=hN1.lt)
       go_ret
       exact⟨by simp[hL0],y7 hb1⟩
     ·go_enter Tryz.func82,Tryz.ntmps82
      go_wp2_with (go_at_call 112;refine(htk' _).mono ?_;rintro e w1 ⟨rfl,hb1⟩;have hN1:=(ze.new w _ _).below hb1 (by simp);have n0:=hN1.cell 0;have n1:=hN1.cell 1;have n2:=hN1.cell 2;have hlN:=hN1.lt)
      go_ret
      exact⟨by simp[hM],y7 hb1⟩
   ·have h2':¬((K:Nat):Int)=2:=by omega
    go_enter Tryz.func82,Tryz.ntmps82
    go_wp2_with (go_at_call 112;refine(htk _).mono ?_;rintro e w1 ⟨rfl,hb1⟩;have hN1:=(ze.new w _ _).below hb1 (by simp);have n0:=hN1.cell 0;have hlN:=hN1.lt)
    go_ret
    exact⟨by simp[h2],y7 hb1⟩
end
end Go.Proofs.YtebcfkigbbolaaaGreatDoor
