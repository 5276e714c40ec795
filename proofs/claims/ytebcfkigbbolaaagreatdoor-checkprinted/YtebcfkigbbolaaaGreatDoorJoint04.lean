import Derived.Test.YtebcfkigbbolaaaGreatDoorJoint03
namespace Go.Proofs.YtebcfkigbbolaaaGreatDoor
set_option linter.unusedVariables false
set_option maxRecDepth 100000
set_option maxHeartbeats 40000000
section
open Go.ChangeShapes Go.WideShapes Go.ChangeAt Go.RowKit
theorem xu:bs zc=⟨#[100,101,118,105,99,101]⟩:=rfl
theorem yG:bs zg=⟨#[106,111,117,114,110,97,108]⟩:=rfl
theorem VY:bs zT=⟨#[107,101,121]⟩:=rfl
theorem Jg:bs zD=⟨#[114,111,111,116]⟩:=rfl
theorem xo:bs zp=⟨#[118,111,108,117,109,101]⟩:=rfl
theorem xn:bs zv=⟨#[101,120,112,111,114,116]⟩:=rfl
theorem kg{t:Tk}(h:jD jt t=true):t.s=zc∨t.s=zg∨t.s=zT∨t.s=zD∨t.s=zp∨t.s=zv:=by
 unfold jD at h;rw[Bool.and_eq_true]at h;have:=h.2;simp only[jt,List.any_cons,List.any_nil,Bool.or_false,Bool.or_eq_true,beq_iff_eq]at this;exact this
theorem Vt{p:Tk→Bool}{en:Nat}{ts r:zo}{t:Tk×Nat}(h:zn p en ts= .ok (t,r)):p t.1=true:=by
 cases ts with
 |nil=>cases h
 |cons u us =>
  simp only[zn]at h
  split at h
  ·rename_i hp;cases h;exact hp
  ·cases h
def ka:jk (Int×List Nd):=zt (zn (jS 1)) λt=>qT (t.1.n,[])
def Ks:jk (Int×List Nd):=zt (zn (jS 2)) λt=>qT (0,[.mk Zn t.1.s 0 t.2 []])
def X6:jk (Int×List Nd):=zt (zn (qM [61])) λ_=>zt (zC 12) λn=>qT (0,[n])
def Gv:jk (Int×List Nd):=QS (jD [zO]) (zt (zn (jD [zO])) λ_=>qT (1,[])) (qT (0,[]))
theorem kA:qV zc=ka:=if_pos (.inl rfl)
theorem KY:qV zg=ka:=if_pos (.inr rfl)
theorem dx:qV zT=Ks:=(if_neg (by decide)).trans (if_pos (.inl rfl))
theorem fy:qV zD=Ks:=(if_neg (by decide)).trans (if_pos (.inr rfl))
theorem kJ:qV zp=X6:=(if_neg (by decide)).trans ((if_neg (by decide)).trans (if_pos rfl))
theorem UV:qV zv=Gv:=(if_neg (by decide)).trans ((if_neg (by decide)).trans (if_neg (by decide)))
def ZS(t u:Tk×Nat):jk Nd:=zt (qV t.1.s) λr=>zt (zn (qM [59])) λ_=>qT (.mk t.1.s u.1.s r.1 t.2 r.2)
theorem X9{en:Nat}{ts:zo}{e:Nat×Nat}(h:zn (jD jt) en ts= .error e):qi en ts= .error e:=by
 unfold qi zt;rw[h]
theorem xh{en:Nat}{ts r:zo}{t:Tk×Nat}{e:Nat×Nat}(h:zn (jD jt) en ts= .ok (t,r))(h2:zn jl en r= .error e):qi en ts= .error e:=by
 unfold qi zt;simp only[h,h2]
theorem vV{en:Nat}{ts r r':zo}{t u:Tk×Nat}(h:zn (jD jt) en ts= .ok (t,r))(h2:zn jl en r= .ok (u,r')):qi en ts=ZS t u en r':=by
 unfold qi;show zt _ _ en ts=_;rw[zt,h];show zt _ _ en r=_;rw[zt,h2];rfl
theorem xe{t u:Tk×Nat}{en:Nat}{ts:zo}{e:Nat×Nat}(h:qV t.1.s en ts= .error e):ZS t u en ts= .error e:=by
 unfold ZS zt;rw[h]
theorem yD{t u:Tk×Nat}{en:Nat}{ts r:zo}{x:Int×List Nd}{e:Nat×Nat}(h:qV t.1.s en ts= .ok (x,r))(h2:zn (qM [59]) en r= .error e):ZS t u en ts= .error e:=by
 unfold ZS zt;simp only[h,h2]
theorem xk{t u:Tk×Nat}{en:Nat}{ts r r':zo}{x:Int×List Nd}{y:Tk×Nat}(h:qV t.1.s en ts= .ok (x,r))(h2:zn (qM [59]) en r= .ok (y,r')):ZS t u en ts= .ok (.mk t.1.s u.1.s x.1 t.2 x.2,r'):=by
 unfold ZS zt;simp only[h,h2];rfl
theorem uL{en:Nat}{ts:zo}{e:Nat×Nat}(h:zn (jS 1) en ts= .error e):ka en ts= .error e:=by unfold ka zt;rw[h]
theorem JL{en:Nat}{ts r:zo}{x:Tk×Nat}(h:zn (jS 1) en ts= .ok (x,r)):ka en ts= .ok ((x.1.n,[]),r):=by unfold ka zt;rw[h];rfl
theorem Gk{en:Nat}{ts:zo}{e:Nat×Nat}(h:zn (jS 2) en ts= .error e):Ks en ts= .error e:=by unfold Ks zt;rw[h]
theorem JI{en:Nat}{ts r:zo}{x:Tk×Nat}(h:zn (jS 2) en ts= .ok (x,r)):Ks en ts= .ok ((0,[.mk Zn x.1.s 0 x.2 []]),r):=by unfold Ks zt;rw[h];rfl
theorem Hh{en:Nat}{ts:zo}{e:Nat×Nat}(h:zn (qM [61]) en ts= .error e):X6 en ts= .error e:=by unfold X6 zt;rw[h]
theorem Dr{en:Nat}{ts r:zo}{x:Tk×Nat}{e:Nat×Nat}(h:zn (qM [61]) en ts= .ok (x,r))(h2:zC 12 en r= .error e):X6 en ts= .error e:=by unfold X6 zt;simp only[h,h2]
theorem uX{en:Nat}{ts r r':zo}{x:Tk×Nat}{n:Nd}(h:zn (qM [61]) en ts= .ok (x,r))(h2:zC 12 en r= .ok (n,r')):X6 en ts= .ok ((0,[n]),r'):=by unfold X6 zt;simp only[h,h2];rfl
theorem uG{en:Nat}{ts:zo}(h:qz (jD [zO]) ts=false):Gv en ts= .ok ((0,[]),ts):=by unfold Gv QS;rw[if_neg (by rw[h];decide)];rfl
theorem uA{en:Nat}{ts r:zo}{x:Tk×Nat}(h:qz (jD [zO]) ts=true)(h2:zn (jD [zO]) en ts= .ok (x,r)):Gv en ts= .ok ((1,[]),r):=by unfold Gv QS zt;rw[if_pos h];simp only[h2];rfl
theorem Ub{p:Tk→Bool}{en:Nat}{ts:zo}(h:qz p ts=true):∃t r,zn p en ts= .ok (t,r):=by
 cases ts with
 |nil=>cases h
 |cons t r=>exact⟨t,r,by simp only[qz]at h;simp only[zn,h,if_true]⟩
theorem Ka(g:Nat)(l:List (List UInt8))(W:World){pb en:Nat}{ts:zo}(h:jF W pb ts en)(hH:ze W g 9 (l.map λx=>Value.string (bs x)).toArray)(hg:g≠pb)(hl:l.length≤100):Ja (W.alloc (.cells #[.slice (some ⟨g,0,none⟩) l.length l.length] 104)) pb (.func (.func 149) #[] #[.pointer (some ⟨W.heap.size,0,none⟩)]) (jD l):=by
 have hlt:=h.lt;exact .wd W.heap.size (.slice (some ⟨g,0,none⟩) l.length l.length) l (by omega) (ze.new _ _ _) (.inr ⟨g,rfl,hH.alloc _⟩) (λe=>by cases e;exact hg rfl) hl
theorem QG(k:Nat){W:World}{pb en:Nat}{ts:zo}(h:jF W pb ts en):Calls Tryz.prog 130 #[.pointer (some ⟨pb,0,none⟩),.func (.func 150) #[] #[.pointer (some ⟨W.heap.size,0,none⟩)]] (W.alloc (.cells #[.int .i64 (k:Nat)] 98)) (xF W pb en (zn (jS k) en ts)):=by
 have hlt:=h.lt;exact(yu (h.new _) (Ja.ki W.heap.size k (by omega) (ze.new _ _ _))).mono λe w' ⟨hk,hr⟩=>⟨zy (zd _ _) hk,hr⟩
def dH:Array Value:=#[.string ⟨#[100,101,118,105,99,101]⟩,.string ⟨#[106,111,117,114,110,97,108]⟩,.string ⟨#[107,101,121]⟩,.string ⟨#[114,111,111,116]⟩,.string ⟨#[118,111,108,117,109,101]⟩,.string ⟨#[101,120,112,111,114,116]⟩]
theorem vX(w:World)(o:Obj){pb en:Nat}{ts:zo}(h:jF w pb ts en):Calls Tryz.prog 130 #[.pointer (some ⟨pb,0,none⟩),.func (.func 149) #[] #[.pointer (some ⟨w.heap.size+1+1,0,none⟩)]] (((w.alloc o).alloc (.cells #[.string ⟨#[100,101,118,105,99,101]⟩,.string ⟨#[106,111,117,114,110,97,108]⟩,.string ⟨#[107,101,121]⟩,.string ⟨#[114,111,111,116]⟩,.string ⟨#[118,111,108,117,109,101]⟩,.string ⟨#[101,120,112,111,114,116]⟩] 9)).alloc (.cells #[.slice (some ⟨w.heap.size+1,0,none⟩) 6 6] 104)) (xF (w.alloc o) pb en (zn (jD jt) en ts)):=by
 have hlt:=h.lt;have h2:jF ((w.alloc o).alloc (.cells dH 9)) pb ts en:=(h.new o).new _
 have hH:ze ((w.alloc o).alloc (.cells dH 9)) (w.heap.size+1) 9 (jt.map λx=>Value.string (bs x)).toArray:=by
  have:=ze.new (w.alloc o) 9 dH;have hz:(w.alloc o).heap.size=w.heap.size+1:=by simp
  rw[hz]at this;exact this
 have ha:=Ka (w.heap.size+1) jt _ h2 hH (by omega) (by decide);have hz:((w.alloc o).alloc (.cells dH 9)).heap.size=w.heap.size+1+1:=by simp
 rw[hz]at ha;exact(yu (h2.new _) ha).mono λe w' ⟨hk,hr⟩=>⟨zy (qv _ _ _) hk,hr⟩
theorem YT(pb en:Nat)(w:World)(ts r1:zo)(K M a:Nat)(h:jF w pb ts en)(hT1:zn (jD jt) en ts= .ok ((⟨K,zc,M⟩,a),r1)):
 Calls Tryz.prog 106 #[.pointer (some ⟨pb,0,none⟩)] w (ZE w pb en (qi en ts)):=by
 have hlt:=h.lt;have htk1:=λo=>vX w o h
 have htk2:=λW (h:jF W pb r1 en)=>yu h Ja.nm
 have hs59:∀W,Calls Tryz.prog 133 #[.string ⟨#[59]⟩] W λe w'=>e= .returned (.func (.func 151) #[] #[.pointer (some ⟨W.heap.size,0,none⟩)])∧w'=W.alloc (.cells #[.string ⟨#[59]⟩] 9):=λW=>vL [59] W
 have htk9:∀ {r:zo} W q,jF W pb r en→W.heap.size=q→Calls Tryz.prog 130 #[.pointer (some ⟨pb,0,none⟩),.func (.func 151) #[] #[.pointer (some ⟨q,0,none⟩)]] (W.alloc (.cells #[.string ⟨#[59]⟩] 9)) (xF W pb en (zn (qM [59]) en r)):=λW q h e=>e ▸ vO [59] h
 rw[hT1]at htk1;cases hT2:zn jl en r1 with
 |error er =>
  obtain⟨c,q⟩:=er;rw[hT2]at htk2;rw[xh hT1 hT2];clear hT1 hT2 h htk9 hs59;go_enter Tryz.func106,Tryz.ntmps106
  go_wp2_with (first
   |(go_at_call 131;refine zh 0 (.slice _ 6 6) rfl ?_;refine(qb _ _ _ _).mono ?_;rintro e w1 ⟨rfl,rfl⟩)
   |((go_at_call 130)
     refine zh 1 (.func (.func 149) #[] _) rfl ?_;refine(htk1 _).mono ?_;rintro e w2 ⟨hk2,rfl,hp2⟩;clear htk1;have hR2:ze w2 w.heap.size 24 #[.string ⟨#[]⟩,.string ⟨#[]⟩,.int .i64 0,.int .i64 0,.slice none 0 0]:=(ze.new w _ _).kp hk2 (by omega);have hlR2:=hR2.lt;(simp only[qt,xu]))
   |(go_at_call 130;refine zh 1 (.func (.func 113) #[] #[]) rfl ?_;refine(htk2 _ ((hp2.new _).new _)).mono ?_;rintro e w3 ⟨hk3,rfl⟩))
  exact⟨rfl,(zy (zd _ _) hk2).trans (zy (qv _ _ _) hk3),rfl⟩
 |ok ur =>
  obtain⟨u,r2⟩:=ur;rw[hT2]at htk2;rw[vV hT1 hT2];have hrest:qV (⟨K,zc,M⟩:Tk).s=ka:=kA;clear hT1 hT2 h;have hki:∀W,Calls Tryz.prog 132 #[.int .i64 1] W λe w'=>e= .returned (.func (.func 150) #[] #[.pointer (some ⟨W.heap.size,0,none⟩)])∧w'=W.alloc (.cells #[.int .i64 1] 98):=λW=>ZQ 1 W
  have htk3:∀W q,jF W pb r2 en→W.heap.size=q→Calls Tryz.prog 130 #[.pointer (some ⟨pb,0,none⟩),.func (.func 150) #[] #[.pointer (some ⟨q,0,none⟩)]] (W.alloc (.cells #[.int .i64 1] 98)) (xF W pb en (zn (jS 1) en r2)):=λW q h e=>e ▸ QG 1 h
  cases hT3:zn (jS 1) en r2 with
  |error er =>
   obtain⟨c,q⟩:=er;rw[hT3]at htk3;have HR:Hid _:=xe (t:=(⟨K,zc,M⟩,a)) (u:=u) (by rw[hrest];exact uL hT3);clear hT3 hrest htk9 hs59;go_enter Tryz.func106,Tryz.ntmps106
   go_wp2_with (first
    |(go_at_call 131;refine zh 0 (.slice _ 6 6) rfl ?_;refine(qb _ _ _ _).mono ?_;rintro e w1 ⟨rfl,rfl⟩)
    |((go_at_call 130)
      refine zh 1 (.func (.func 149) #[] _) rfl ?_;refine(htk1 _).mono ?_;rintro e w2 ⟨hk2,rfl,hp2⟩;clear htk1;have hR2:ze w2 w.heap.size 24 #[.string ⟨#[]⟩,.string ⟨#[]⟩,.int .i64 0,.int .i64 0,.slice none 0 0]:=(ze.new w _ _).kp hk2 (by omega);have hlR2:=hR2.lt;(simp only[qt,xu]))
    |((go_at_call 130)
      refine zh 1 (.func (.func 113) #[] #[]) rfl ?_;refine(htk2 _ ((hp2.new _).new _)).mono ?_;rintro e w3 ⟨hk3,rfl,hp3⟩;(have hN3:ze w3 (w2.heap.size+1) 24 #[.string ⟨#[100,101,118,105,99,101]⟩,.string ⟨#[]⟩,.int .i64 0,.int .i64 (a:Nat),.slice none 0 0]:=(ze.kp (by(have:=ze.new (w2.alloc (.cells #[.int .i64 (K:Nat),.string ⟨#[100,101,118,105,99,101]⟩,.int .i64 (M:Nat),.int .i64 (a:Nat)] 100)) 24 #[.string ⟨#[100,101,118,105,99,101]⟩,.string ⟨#[]⟩,.int .i64 0,.int .i64 (a:Nat),.slice none 0 0];simpa using this)) hk3 (by omega)));have n0:=hN3.cell 0;have m0:=hN3.free 0;have n1:=hN3.cell 1;have m1:=hN3.free 1;have n2:=hN3.cell 2;have m2:=hN3.free 2;have n3:=hN3.cell 3;have m3:=hN3.free 3;have n4:=hN3.cell 4;have m4:=hN3.free 4;have hlN:=hN3.lt;have hR3:=((hR2.alloc _).alloc _).kp hk3 (by omega);have hK3:Kp pb w w3:=(zy (zd _ _) hk2).trans (zy (qv _ _ _) hk3);(have hpN:pb<w2.heap.size+1:=by omega);(have hwN:w.heap.size≤w2.heap.size+1:=by omega);(have hneR:w.heap.size≠w2.heap.size+1:=by omega);(simp only[qt]))
    |((refine zf 18 rfl ?_)
      (refine zb (some 18) (.string (bs u.1.s)) rfl rfl (by kernel_rfl) ?_))
    |(go_at_call 132;refine(hki _).mono ?_;rintro e w1 ⟨rfl,rfl⟩)
    |(go_at_call 130;refine zh 1 (.func (.func 150) #[] _) rfl ?_;refine(htk3 _ _ (hp3.set (q:=⟨w2.heap.size+1,1,none⟩) hpN _) (by simp)).mono ?_;rintro e w4 ⟨hk4,rfl⟩))
   exact⟨rfl,(hK3.setNew (q:=⟨w2.heap.size+1,1,none⟩) hwN _).trans hk4,by rw[HR.out]⟩
  |ok xr =>
   obtain⟨x,r3⟩:=xr;rw[hT3]at htk3;cases hT9:zn (qM [59]) en r3 with
   |error er =>
    obtain⟨c9,q9⟩:=er;have htk9:=λW q h e=>htk9 (r:=r3) W q h e
    rw[hT9]at htk9;have HR:Hid _:=yD (t:=(⟨K,zc,M⟩,a)) (u:=u) (by rw[hrest];exact JL hT3) hT9;clear hT9 hT3 hrest;go_enter Tryz.func106,Tryz.ntmps106
    go_wp2_with (first
     |(go_at_call 131;refine zh 0 (.slice _ 6 6) rfl ?_;refine(qb _ _ _ _).mono ?_;rintro e w1 ⟨rfl,rfl⟩)
     |((go_at_call 130)
       refine zh 1 (.func (.func 149) #[] _) rfl ?_;refine(htk1 _).mono ?_;rintro e w2 ⟨hk2,rfl,hp2⟩;clear htk1;have hR2:ze w2 w.heap.size 24 #[.string ⟨#[]⟩,.string ⟨#[]⟩,.int .i64 0,.int .i64 0,.slice none 0 0]:=(ze.new w _ _).kp hk2 (by omega);have hlR2:=hR2.lt;(simp only[qt,xu]))
     |((go_at_call 130)
       refine zh 1 (.func (.func 113) #[] #[]) rfl ?_;refine(htk2 _ ((hp2.new _).new _)).mono ?_;rintro e w3 ⟨hk3,rfl,hp3⟩;(have hN3:ze w3 (w2.heap.size+1) 24 #[.string ⟨#[100,101,118,105,99,101]⟩,.string ⟨#[]⟩,.int .i64 0,.int .i64 (a:Nat),.slice none 0 0]:=(ze.kp (by(have:=ze.new (w2.alloc (.cells #[.int .i64 (K:Nat),.string ⟨#[100,101,118,105,99,101]⟩,.int .i64 (M:Nat),.int .i64 (a:Nat)] 100)) 24 #[.string ⟨#[100,101,118,105,99,101]⟩,.string ⟨#[]⟩,.int .i64 0,.int .i64 (a:Nat),.slice none 0 0];simpa using this)) hk3 (by omega)));have n0:=hN3.cell 0;have m0:=hN3.free 0;have n1:=hN3.cell 1;have m1:=hN3.free 1;have n2:=hN3.cell 2;have m2:=hN3.free 2;have n3:=hN3.cell 3;have m3:=hN3.free 3;have n4:=hN3.cell 4;have m4:=hN3.free 4;have hlN:=hN3.lt;have hR3:=((hR2.alloc _).alloc _).kp hk3 (by omega);have hK3:Kp pb w w3:=(zy (zd _ _) hk2).trans (zy (qv _ _ _) hk3);(have hpN:pb<w2.heap.size+1:=by omega);(have hwN:w.heap.size≤w2.heap.size+1:=by omega);(have hneR:w.heap.size≠w2.heap.size+1:=by omega);(simp only[qt]))
     |((refine zf 18 rfl ?_)
       (refine zb (some 18) (.string (bs u.1.s)) rfl rfl (by kernel_rfl) ?_))
     |(go_at_call 132;refine(hki _).mono ?_;rintro e w1 ⟨rfl,rfl⟩)
     |((go_at_call 130)
       refine zh 1 (.func (.func 150) #[] _) rfl ?_;refine(htk3 _ _ (hp3.set (q:=⟨w2.heap.size+1,1,none⟩) hpN _) (by simp)).mono ?_;rintro e w4 ⟨hk4,rfl,hp4⟩;have hN4:=(hN3.putP 1 _).kp hk4 (by omega);have hR4:=(hR3.other (p:=⟨w2.heap.size+1,1,none⟩) hneR _).kp hk4 (by omega);have hK4:=(hK3.setNew (q:=⟨w2.heap.size+1,1,none⟩) hwN _).trans hk4;have y0:=hN4.cell 0;have z0:=hN4.free 0;have y1:=hN4.cell 1;have z1:=hN4.free 1;have y2:=hN4.cell 2;have z2:=hN4.free 2;have y3:=hN4.cell 3;have z3:=hN4.free 3;have y4:=hN4.cell 4;have z4:=hN4.free 4;have hlN4:=hN4.lt;have hlR4:=hR4.lt;(simp only[qt]))
     |((refine zf 28 rfl ?_)
       (refine zb (some 28) (.int .i64 (x.1.n:Nat)) rfl rfl (by kernel_rfl) ?_))
     |(go_at_call 133;refine zh 0 (.string ⟨#[59]⟩) rfl ?_;refine(hs59 _).mono ?_;rintro e w1 ⟨rfl,rfl⟩)
     |(go_at_call 130;refine zh 1 (.func (.func 151) #[] _) rfl ?_;refine(htk9 _ _ (hp4.set (q:=⟨w2.heap.size+1,2,none⟩) hpN _) (by simp)).mono ?_;rintro e w9 ⟨hk9,rfl⟩))
    exact⟨rfl,(hK4.setNew (q:=⟨w2.heap.size+1,2,none⟩) hwN _).trans hk9,by rw[HR.out]⟩
   |ok yr =>
    obtain⟨y9,r9⟩:=yr;have htk9:=λW q h e=>htk9 (r:=r3) W q h e
    rw[hT9]at htk9;have HR:Hid _:=xk (t:=(⟨K,zc,M⟩,a)) (u:=u) (by rw[hrest];exact JL hT3) hT9;clear hT9 hT3 hrest;go_enter Tryz.func106,Tryz.ntmps106
    go_wp2_with (first
     |(go_at_call 131;refine zh 0 (.slice _ 6 6) rfl ?_;refine(qb _ _ _ _).mono ?_;rintro e w1 ⟨rfl,rfl⟩)
     |((go_at_call 130)
       refine zh 1 (.func (.func 149) #[] _) rfl ?_;refine(htk1 _).mono ?_;rintro e w2 ⟨hk2,rfl,hp2⟩;clear htk1;have hR2:ze w2 w.heap.size 24 #[.string ⟨#[]⟩,.string ⟨#[]⟩,.int .i64 0,.int .i64 0,.slice none 0 0]:=(ze.new w _ _).kp hk2 (by omega);have hlR2:=hR2.lt;(simp only[qt,xu]))
     |((go_at_call 130)
       refine zh 1 (.func (.func 113) #[] #[]) rfl ?_;refine(htk2 _ ((hp2.new _).new _)).mono ?_;rintro e w3 ⟨hk3,rfl,hp3⟩;(have hN3:ze w3 (w2.heap.size+1) 24 #[.string ⟨#[100,101,118,105,99,101]⟩,.string ⟨#[]⟩,.int .i64 0,.int .i64 (a:Nat),.slice none 0 0]:=(ze.kp (by(have:=ze.new (w2.alloc (.cells #[.int .i64 (K:Nat),.string ⟨#[100,101,118,105,99,101]⟩,.int .i64 (M:Nat),.int .i64 (a:Nat)] 100)) 24 #[.string ⟨#[100,101,118,105,99,101]⟩,.string ⟨#[]⟩,.int .i64 0,.int .i64 (a:Nat),.slice none 0 0];simpa using this)) hk3 (by omega)));have n0:=hN3.cell 0;have m0:=hN3.free 0;have n1:=hN3.cell 1;have m1:=hN3.free 1;have n2:=hN3.cell 2;have m2:=hN3.free 2;have n3:=hN3.cell 3;have m3:=hN3.free 3;have n4:=hN3.cell 4;have m4:=hN3.free 4;have hlN:=hN3.lt;have hR3:=((hR2.alloc _).alloc _).kp hk3 (by omega);have hK3:Kp pb w w3:=(zy (zd _ _) hk2).trans (zy (qv _ _ _) hk3);(have hpN:pb<w2.heap.size+1:=by omega);(have hwN:w.heap.size≤w2.heap.size+1:=by omega);(have hneR:w.heap.size≠w2.heap.size+1:=by omega);(simp only[qt]))
     |((refine zf 18 rfl ?_)
       (refine zb (some 18) (.string (bs u.1.s)) rfl rfl (by kernel_rfl) ?_))
     |(go_at_call 132;refine(hki _).mono ?_;rintro e w1 ⟨rfl,rfl⟩)
     |((go_at_call 130)
       refine zh 1 (.func (.func 150) #[] _) rfl ?_;refine(htk3 _ _ (hp3.set (q:=⟨w2.heap.size+1,1,none⟩) hpN _) (by simp)).mono ?_;rintro e w4 ⟨hk4,rfl,hp4⟩;have hN4:=(hN3.putP 1 _).kp hk4 (by omega);have hR4:=(hR3.other (p:=⟨w2.heap.size+1,1,none⟩) hneR _).kp hk4 (by omega);have hK4:=(hK3.setNew (q:=⟨w2.heap.size+1,1,none⟩) hwN _).trans hk4;have y0:=hN4.cell 0;have z0:=hN4.free 0;have y1:=hN4.cell 1;have z1:=hN4.free 1;have y2:=hN4.cell 2;have z2:=hN4.free 2;have y3:=hN4.cell 3;have z3:=hN4.free 3;have y4:=hN4.cell 4;have z4:=hN4.free 4;have hlN4:=hN4.lt;have hlR4:=hR4.lt;(simp only[qt]))
     |((refine zf 28 rfl ?_)
       (refine zb (some 28) (.int .i64 (x.1.n:Nat)) rfl rfl (by kernel_rfl) ?_))
     |(go_at_call 133;refine zh 0 (.string ⟨#[59]⟩) rfl ?_;refine(hs59 _).mono ?_;rintro e w1 ⟨rfl,rfl⟩)
     |((go_at_call 130)
       refine zh 1 (.func (.func 151) #[] _) rfl ?_;refine(htk9 _ _ (hp4.set (q:=⟨w2.heap.size+1,2,none⟩) hpN _) (by simp)).mono ?_;rintro e w9 ⟨hk9,rfl,hp9⟩;have hN9:=(hN4.putP 2 _).kp hk9 (by omega);have hR9:=(hR4.other (p:=⟨w2.heap.size+1,2,none⟩) hneR _).kp hk9 (by omega);have hK9:Kp pb w w9:=(hK4.setNew (q:=⟨w2.heap.size+1,2,none⟩) hwN _).trans hk9;have x0:=hN9.cell 0;have r0:=hR9.cell 0;have f0:=hR9.free 0;have x1:=hN9.cell 1;have r1:=hR9.cell 1;have f1:=hR9.free 1;have x2:=hN9.cell 2;have r2:=hR9.cell 2;have f2:=hR9.free 2;have x3:=hN9.cell 3;have r3:=hR9.cell 3;have f3:=hR9.free 3;have x4:=hN9.cell 4;have r4:=hR9.cell 4;have f4:=hR9.free 4;have hlN9:=hN9.lt;(have hlR9:=hR9.lt)))
    refine zY rfl rfl (hR9.set5 _ _ _ _ _) rfl ⟨hK9.set5 (Nat.le_refl _) _ _ _ _ _,?_⟩;rw[HR.out];exact⟨none,0,rfl,jB.nil _ _,hp9.set5 hlt _ _ _ _ _⟩
theorem VM(pb en:Nat)(w:World)(ts r1:zo)(K M a:Nat)(h:jF w pb ts en)(hT1:zn (jD jt) en ts= .ok ((⟨K,zg,M⟩,a),r1)):
 Calls Tryz.prog 106 #[.pointer (some ⟨pb,0,none⟩)] w (ZE w pb en (qi en ts)):=by
 have hlt:=h.lt;have htk1:=λo=>vX w o h
 have htk2:=λW (h:jF W pb r1 en)=>yu h Ja.nm
 have hs59:∀W,Calls Tryz.prog 133 #[.string ⟨#[59]⟩] W λe w'=>e= .returned (.func (.func 151) #[] #[.pointer (some ⟨W.heap.size,0,none⟩)])∧w'=W.alloc (.cells #[.string ⟨#[59]⟩] 9):=λW=>vL [59] W
 have htk9:∀ {r:zo} W q,jF W pb r en→W.heap.size=q→Calls Tryz.prog 130 #[.pointer (some ⟨pb,0,none⟩),.func (.func 151) #[] #[.pointer (some ⟨q,0,none⟩)]] (W.alloc (.cells #[.string ⟨#[59]⟩] 9)) (xF W pb en (zn (qM [59]) en r)):=λW q h e=>e ▸ vO [59] h
 rw[hT1]at htk1;cases hT2:zn jl en r1 with
 |error er =>
  obtain⟨c,q⟩:=er;rw[hT2]at htk2;rw[xh hT1 hT2];clear hT1 hT2 h htk9 hs59;go_enter Tryz.func106,Tryz.ntmps106
  go_wp2_with (first
   |(go_at_call 131;refine zh 0 (.slice _ 6 6) rfl ?_;refine(qb _ _ _ _).mono ?_;rintro e w1 ⟨rfl,rfl⟩)
   |((go_at_call 130)
     refine zh 1 (.func (.func 149) #[] _) rfl ?_;refine(htk1 _).mono ?_;rintro e w2 ⟨hk2,rfl,hp2⟩;clear htk1;have hR2:ze w2 w.heap.size 24 #[.string ⟨#[]⟩,.string ⟨#[]⟩,.int .i64 0,.int .i64 0,.slice none 0 0]:=(ze.new w _ _).kp hk2 (by omega);have hlR2:=hR2.lt;(simp only[qt,yG]))
   |(go_at_call 130;refine zh 1 (.func (.func 113) #[] #[]) rfl ?_;refine(htk2 _ ((hp2.new _).new _)).mono ?_;rintro e w3 ⟨hk3,rfl⟩))
  exact⟨rfl,(zy (zd _ _) hk2).trans (zy (qv _ _ _) hk3),rfl⟩
 |ok ur =>
  obtain⟨u,r2⟩:=ur;rw[hT2]at htk2;rw[vV hT1 hT2];have hrest:qV (⟨K,zg,M⟩:Tk).s=ka:=KY;clear hT1 hT2 h;have hki:∀W,Calls Tryz.prog 132 #[.int .i64 1] W λe w'=>e= .returned (.func (.func 150) #[] #[.pointer (some ⟨W.heap.size,0,none⟩)])∧w'=W.alloc (.cells #[.int .i64 1] 98):=λW=>ZQ 1 W
  have htk3:∀W q,jF W pb r2 en→W.heap.size=q→Calls Tryz.prog 130 #[.pointer (some ⟨pb,0,none⟩),.func (.func 150) #[] #[.pointer (some ⟨q,0,none⟩)]] (W.alloc (.cells #[.int .i64 1] 98)) (xF W pb en (zn (jS 1) en r2)):=λW q h e=>e ▸ QG 1 h
  cases hT3:zn (jS 1) en r2 with
  |error er =>
   obtain⟨c,q⟩:=er;rw[hT3]at htk3;have HR:Hid _:=xe (t:=(⟨K,zg,M⟩,a)) (u:=u) (by rw[hrest];exact uL hT3);clear hT3 hrest htk9 hs59;go_enter Tryz.func106,Tryz.ntmps106
   go_wp2_with (first
    |(go_at_call 131;refine zh 0 (.slice _ 6 6) rfl ?_;refine(qb _ _ _ _).mono ?_;rintro e w1 ⟨rfl,rfl⟩)
    |((go_at_call 130)
      refine zh 1 (.func (.func 149) #[] _) rfl ?_;refine(htk1 _).mono ?_;rintro e w2 ⟨hk2,rfl,hp2⟩;clear htk1;have hR2:ze w2 w.heap.size 24 #[.string ⟨#[]⟩,.string ⟨#[]⟩,.int .i64 0,.int .i64 0,.slice none 0 0]:=(ze.new w _ _).kp hk2 (by omega);have hlR2:=hR2.lt;(simp only[qt,yG]))
    |((go_at_call 130)
      refine zh 1 (.func (.func 113) #[] #[]) rfl ?_;refine(htk2 _ ((hp2.new _).new _)).mono ?_;rintro e w3 ⟨hk3,rfl,hp3⟩;(have hN3:ze w3 (w2.heap.size+1) 24 #[.string ⟨#[106,111,117,114,110,97,108]⟩,.string ⟨#[]⟩,.int .i64 0,.int .i64 (a:Nat),.slice none 0 0]:=(ze.kp (by(have:=ze.new (w2.alloc (.cells #[.int .i64 (K:Nat),.string ⟨#[106,111,117,114,110,97,108]⟩,.int .i64 (M:Nat),.int .i64 (a:Nat)] 100)) 24 #[.string ⟨#[106,111,117,114,110,97,108]⟩,.string ⟨#[]⟩,.int .i64 0,.int .i64 (a:Nat),.slice none 0 0];simpa using this)) hk3 (by omega)));have n0:=hN3.cell 0;have m0:=hN3.free 0;have n1:=hN3.cell 1;have m1:=hN3.free 1;have n2:=hN3.cell 2;have m2:=hN3.free 2;have n3:=hN3.cell 3;have m3:=hN3.free 3;have n4:=hN3.cell 4;have m4:=hN3.free 4;have hlN:=hN3.lt;have hR3:=((hR2.alloc _).alloc _).kp hk3 (by omega);have hK3:Kp pb w w3:=(zy (zd _ _) hk2).trans (zy (qv _ _ _) hk3);(have hpN:pb<w2.heap.size+1:=by omega);(have hwN:w.heap.size≤w2.heap.size+1:=by omega);(have hneR:w.heap.size≠w2.heap.size+1:=by omega);(simp only[qt]))
    |((refine zf 18 rfl ?_)
      (refine zb (some 18) (.string (bs u.1.s)) rfl rfl (by kernel_rfl) ?_))
    |(go_at_call 132;refine(hki _).mono ?_;rintro e w1 ⟨rfl,rfl⟩)
    |(go_at_call 130;refine zh 1 (.func (.func 150) #[] _) rfl ?_;refine(htk3 _ _ (hp3.set (q:=⟨w2.heap.size+1,1,none⟩) hpN _) (by simp)).mono ?_;rintro e w4 ⟨hk4,rfl⟩))
   exact⟨rfl,(hK3.setNew (q:=⟨w2.heap.size+1,1,none⟩) hwN _).trans hk4,by rw[HR.out]⟩
  |ok xr =>
   obtain⟨x,r3⟩:=xr;rw[hT3]at htk3;cases hT9:zn (qM [59]) en r3 with
   |error er =>
    obtain⟨c9,q9⟩:=er;have htk9:=λW q h e=>htk9 (r:=r3) W q h e
    rw[hT9]at htk9;have HR:Hid _:=yD (t:=(⟨K,zg,M⟩,a)) (u:=u) (by rw[hrest];exact JL hT3) hT9;clear hT9 hT3 hrest;go_enter Tryz.func106,Tryz.ntmps106
    go_wp2_with (first
     |(go_at_call 131;refine zh 0 (.slice _ 6 6) rfl ?_;refine(qb _ _ _ _).mono ?_;rintro e w1 ⟨rfl,rfl⟩)
     |((go_at_call 130)
       refine zh 1 (.func (.func 149) #[] _) rfl ?_;refine(htk1 _).mono ?_;rintro e w2 ⟨hk2,rfl,hp2⟩;clear htk1;have hR2:ze w2 w.heap.size 24 #[.string ⟨#[]⟩,.string ⟨#[]⟩,.int .i64 0,.int .i64 0,.slice none 0 0]:=(ze.new w _ _).kp hk2 (by omega);have hlR2:=hR2.lt;(simp only[qt,yG]))
     |((go_at_call 130)
       refine zh 1 (.func (.func 113) #[] #[]) rfl ?_;refine(htk2 _ ((hp2.new _).new _)).mono ?_;rintro e w3 ⟨hk3,rfl,hp3⟩;(have hN3:ze w3 (w2.heap.size+1) 24 #[.string ⟨#[106,111,117,114,110,97,108]⟩,.string ⟨#[]⟩,.int .i64 0,.int .i64 (a:Nat),.slice none 0 0]:=(ze.kp (by(have:=ze.new (w2.alloc (.cells #[.int .i64 (K:Nat),.string ⟨#[106,111,117,114,110,97,108]⟩,.int .i64 (M:Nat),.int .i64 (a:Nat)] 100)) 24 #[.string ⟨#[106,111,117,114,110,97,108]⟩,.string ⟨#[]⟩,.int .i64 0,.int .i64 (a:Nat),.slice none 0 0];simpa using this)) hk3 (by omega)));have n0:=hN3.cell 0;have m0:=hN3.free 0;have n1:=hN3.cell 1;have m1:=hN3.free 1;have n2:=hN3.cell 2;have m2:=hN3.free 2;have n3:=hN3.cell 3;have m3:=hN3.free 3;have n4:=hN3.cell 4;have m4:=hN3.free 4;have hlN:=hN3.lt;have hR3:=((hR2.alloc _).alloc _).kp hk3 (by omega);have hK3:Kp pb w w3:=(zy (zd _ _) hk2).trans (zy (qv _ _ _) hk3);(have hpN:pb<w2.heap.size+1:=by omega);(have hwN:w.heap.size≤w2.heap.size+1:=by omega);(have hneR:w.heap.size≠w2.heap.size+1:=by omega);(simp only[qt]))
     |((refine zf 18 rfl ?_)
       (refine zb (some 18) (.string (bs u.1.s)) rfl rfl (by kernel_rfl) ?_))
     |(go_at_call 132;refine(hki _).mono ?_;rintro e w1 ⟨rfl,rfl⟩)
     |((go_at_call 130)
       refine zh 1 (.func (.func 150) #[] _) rfl ?_;refine(htk3 _ _ (hp3.set (q:=⟨w2.heap.size+1,1,none⟩) hpN _) (by simp)).mono ?_;rintro e w4 ⟨hk4,rfl,hp4⟩;have hN4:=(hN3.putP 1 _).kp hk4 (by omega);have hR4:=(hR3.other (p:=⟨w2.heap.size+1,1,none⟩) hneR _).kp hk4 (by omega);have hK4:=(hK3.setNew (q:=⟨w2.heap.size+1,1,none⟩) hwN _).trans hk4;have y0:=hN4.cell 0;have z0:=hN4.free 0;have y1:=hN4.cell 1;have z1:=hN4.free 1;have y2:=hN4.cell 2;have z2:=hN4.free 2;have y3:=hN4.cell 3;have z3:=hN4.free 3;have y4:=hN4.cell 4;have z4:=hN4.free 4;have hlN4:=hN4.lt;have hlR4:=hR4.lt;(simp only[qt]))
     |((refine zf 28 rfl ?_)
       (refine zb (some 28) (.int .i64 (x.1.n:Nat)) rfl rfl (by kernel_rfl) ?_))
     |(go_at_call 133;refine zh 0 (.string ⟨#[59]⟩) rfl ?_;refine(hs59 _).mono ?_;rintro e w1 ⟨rfl,rfl⟩)
     |(go_at_call 130;refine zh 1 (.func (.func 151) #[] _) rfl ?_;refine(htk9 _ _ (hp4.set (q:=⟨w2.heap.size+1,2,none⟩) hpN _) (by simp)).mono ?_;rintro e w9 ⟨hk9,rfl⟩))
    exact⟨rfl,(hK4.setNew (q:=⟨w2.heap.size+1,2,none⟩) hwN _).trans hk9,by rw[HR.out]⟩
   |ok yr =>
    obtain⟨y9,r9⟩:=yr;have htk9:=λW q h e=>htk9 (r:=r3) W q h e
    rw[hT9]at htk9;have HR:Hid _:=xk (t:=(⟨K,zg,M⟩,a)) (u:=u) (by rw[hrest];exact JL hT3) hT9;clear hT9 hT3 hrest;go_enter Tryz.func106,Tryz.ntmps106
    go_wp2_with (first
     |(go_at_call 131;refine zh 0 (.slice _ 6 6) rfl ?_;refine(qb _ _ _ _).mono ?_;rintro e w1 ⟨rfl,rfl⟩)
     |((go_at_call 130)
       refine zh 1 (.func (.func 149) #[] _) rfl ?_;refine(htk1 _).mono ?_;rintro e w2 ⟨hk2,rfl,hp2⟩;clear htk1;have hR2:ze w2 w.heap.size 24 #[.string ⟨#[]⟩,.string ⟨#[]⟩,.int .i64 0,.int .i64 0,.slice none 0 0]:=(ze.new w _ _).kp hk2 (by omega);have hlR2:=hR2.lt;(simp only[qt,yG]))
     |((go_at_call 130)
       refine zh 1 (.func (.func 113) #[] #[]) rfl ?_;refine(htk2 _ ((hp2.new _).new _)).mono ?_;rintro e w3 ⟨hk3,rfl,hp3⟩;(have hN3:ze w3 (w2.heap.size+1) 24 #[.string ⟨#[106,111,117,114,110,97,108]⟩,.string ⟨#[]⟩,.int .i64 0,.int .i64 (a:Nat),.slice none 0 0]:=(ze.kp (by(have:=ze.new (w2.alloc (.cells #[.int .i64 (K:Nat),.string ⟨#[106,111,117,114,110,97,108]⟩,.int .i64 (M:Nat),.int .i64 (a:Nat)] 100)) 24 #[.string ⟨#[106,111,117,114,110,97,108]⟩,.string ⟨#[]⟩,.int .i64 0,.int .i64 (a:Nat),.slice none 0 0];simpa using this)) hk3 (by omega)));have n0:=hN3.cell 0;have m0:=hN3.free 0;have n1:=hN3.cell 1;have m1:=hN3.free 1;have n2:=hN3.cell 2;have m2:=hN3.free 2;have n3:=hN3.cell 3;have m3:=hN3.free 3;have n4:=hN3.cell 4;have m4:=hN3.free 4;have hlN:=hN3.lt;have hR3:=((hR2.alloc _).alloc _).kp hk3 (by omega);have hK3:Kp pb w w3:=(zy (zd _ _) hk2).trans (zy (qv _ _ _) hk3);(have hpN:pb<w2.heap.size+1:=by omega);(have hwN:w.heap.size≤w2.heap.size+1:=by omega);(have hneR:w.heap.size≠w2.heap.size+1:=by omega);(simp only[qt]))
     |((refine zf 18 rfl ?_)
       (refine zb (some 18) (.string (bs u.1.s)) rfl rfl (by kernel_rfl) ?_))
     |(go_at_call 132;refine(hki _).mono ?_;rintro e w1 ⟨rfl,rfl⟩)
     |((go_at_call 130)
       refine zh 1 (.func (.func 150) #[] _) rfl ?_;refine(htk3 _ _ (hp3.set (q:=⟨w2.heap.size+1,1,none⟩) hpN _) (by simp)).mono ?_;rintro e w4 ⟨hk4,rfl,hp4⟩;have hN4:=(hN3.putP 1 _).kp hk4 (by omega);have hR4:=(hR3.other (p:=⟨w2.heap.size+1,1,none⟩) hneR _).kp hk4 (by omega);have hK4:=(hK3.setNew (q:=⟨w2.heap.size+1,1,none⟩) hwN _).trans hk4;have y0:=hN4.cell 0;have z0:=hN4.free 0;have y1:=hN4.cell 1;have z1:=hN4.free 1;have y2:=hN4.cell 2;have z2:=hN4.free 2;have y3:=hN4.cell 3;have z3:=hN4.free 3;have y4:=hN4.cell 4;have z4:=hN4.free 4;have hlN4:=hN4.lt;have hlR4:=hR4.lt;(simp only[qt]))
     |((refine zf 28 rfl ?_)
       (refine zb (some 28) (.int .i64 (x.1.n:Nat)) rfl rfl (by kernel_rfl) ?_))
     |(go_at_call 133;refine zh 0 (.string ⟨#[59]⟩) rfl ?_;refine(hs59 _).mono ?_;rintro e w1 ⟨rfl,rfl⟩)
     |((go_at_call 130)
       refine zh 1 (.func (.func 151) #[] _) rfl ?_;refine(htk9 _ _ (hp4.set (q:=⟨w2.heap.size+1,2,none⟩) hpN _) (by simp)).mono ?_;rintro e w9 ⟨hk9,rfl,hp9⟩;have hN9:=(hN4.putP 2 _).kp hk9 (by omega);have hR9:=(hR4.other (p:=⟨w2.heap.size+1,2,none⟩) hneR _).kp hk9 (by omega);have hK9:Kp pb w w9:=(hK4.setNew (q:=⟨w2.heap.size+1,2,none⟩) hwN _).trans hk9;have x0:=hN9.cell 0;have r0:=hR9.cell 0;have f0:=hR9.free 0;have x1:=hN9.cell 1;have r1:=hR9.cell 1;have f1:=hR9.free 1;have x2:=hN9.cell 2;have r2:=hR9.cell 2;have f2:=hR9.free 2;have x3:=hN9.cell 3;have r3:=hR9.cell 3;have f3:=hR9.free 3;have x4:=hN9.cell 4;have r4:=hR9.cell 4;have f4:=hR9.free 4;have hlN9:=hN9.lt;(have hlR9:=hR9.lt)))
    refine zY rfl rfl (hR9.set5 _ _ _ _ _) rfl ⟨hK9.set5 (Nat.le_refl _) _ _ _ _ _,?_⟩;rw[HR.out];exact⟨none,0,rfl,jB.nil _ _,hp9.set5 hlt _ _ _ _ _⟩
theorem gO(pb en:Nat)(w:World)(ts r1:zo)(K M a:Nat)(h:jF w pb ts en)(hT1:zn (jD jt) en ts= .ok ((⟨K,zT,M⟩,a),r1)):
 Calls Tryz.prog 106 #[.pointer (some ⟨pb,0,none⟩)] w (ZE w pb en (qi en ts)):=by
 have hlt:=h.lt;have htk1:=λo=>vX w o h
 have htk2:=λW (h:jF W pb r1 en)=>yu h Ja.nm
 have hs59:∀W,Calls Tryz.prog 133 #[.string ⟨#[59]⟩] W λe w'=>e= .returned (.func (.func 151) #[] #[.pointer (some ⟨W.heap.size,0,none⟩)])∧w'=W.alloc (.cells #[.string ⟨#[59]⟩] 9):=λW=>vL [59] W
 have htk9:∀ {r:zo} W q,jF W pb r en→W.heap.size=q→Calls Tryz.prog 130 #[.pointer (some ⟨pb,0,none⟩),.func (.func 151) #[] #[.pointer (some ⟨q,0,none⟩)]] (W.alloc (.cells #[.string ⟨#[59]⟩] 9)) (xF W pb en (zn (qM [59]) en r)):=λW q h e=>e ▸ vO [59] h
 rw[hT1]at htk1;cases hT2:zn jl en r1 with
 |error er =>
  obtain⟨c,q⟩:=er;rw[hT2]at htk2;rw[xh hT1 hT2];clear hT1 hT2 h htk9 hs59;go_enter Tryz.func106,Tryz.ntmps106
  go_wp2_with (first
   |(go_at_call 131;refine zh 0 (.slice _ 6 6) rfl ?_;refine(qb _ _ _ _).mono ?_;rintro e w1 ⟨rfl,rfl⟩)
   |((go_at_call 130)
     refine zh 1 (.func (.func 149) #[] _) rfl ?_;refine(htk1 _).mono ?_;rintro e w2 ⟨hk2,rfl,hp2⟩;clear htk1;have hR2:ze w2 w.heap.size 24 #[.string ⟨#[]⟩,.string ⟨#[]⟩,.int .i64 0,.int .i64 0,.slice none 0 0]:=(ze.new w _ _).kp hk2 (by omega);have hlR2:=hR2.lt;(simp only[qt,VY]))
   |(go_at_call 130;refine zh 1 (.func (.func 113) #[] #[]) rfl ?_;refine(htk2 _ ((hp2.new _).new _)).mono ?_;rintro e w3 ⟨hk3,rfl⟩))
  exact⟨rfl,(zy (zd _ _) hk2).trans (zy (qv _ _ _) hk3),rfl⟩
 |ok ur =>
  obtain⟨u,r2⟩:=ur;rw[hT2]at htk2;rw[vV hT1 hT2];have hrest:qV (⟨K,zT,M⟩:Tk).s=Ks:=dx;clear hT1 hT2 h;have hki:∀W,Calls Tryz.prog 132 #[.int .i64 2] W λe w'=>e= .returned (.func (.func 150) #[] #[.pointer (some ⟨W.heap.size,0,none⟩)])∧w'=W.alloc (.cells #[.int .i64 2] 98):=λW=>ZQ 2 W
  have htk3:∀W q,jF W pb r2 en→W.heap.size=q→Calls Tryz.prog 130 #[.pointer (some ⟨pb,0,none⟩),.func (.func 150) #[] #[.pointer (some ⟨q,0,none⟩)]] (W.alloc (.cells #[.int .i64 2] 98)) (xF W pb en (zn (jS 2) en r2)):=λW q h e=>e ▸ QG 2 h
  cases hT3:zn (jS 2) en r2 with
  |error er =>
   obtain⟨c,q⟩:=er;rw[hT3]at htk3;have HR:Hid _:=xe (t:=(⟨K,zT,M⟩,a)) (u:=u) (by rw[hrest];exact Gk hT3);clear hT3 hrest htk9 hs59;go_enter Tryz.func106,Tryz.ntmps106
   go_wp2_with (first
    |(go_at_call 131;refine zh 0 (.slice _ 6 6) rfl ?_;refine(qb _ _ _ _).mono ?_;rintro e w1 ⟨rfl,rfl⟩)
    |((go_at_call 130)
      refine zh 1 (.func (.func 149) #[] _) rfl ?_;refine(htk1 _).mono ?_;rintro e w2 ⟨hk2,rfl,hp2⟩;clear htk1;have hR2:ze w2 w.heap.size 24 #[.string ⟨#[]⟩,.string ⟨#[]⟩,.int .i64 0,.int .i64 0,.slice none 0 0]:=(ze.new w _ _).kp hk2 (by omega);have hlR2:=hR2.lt;(simp only[qt,VY]))
    |((go_at_call 130)
      refine zh 1 (.func (.func 113) #[] #[]) rfl ?_;refine(htk2 _ ((hp2.new _).new _)).mono ?_;rintro e w3 ⟨hk3,rfl,hp3⟩;(have hN3:ze w3 (w2.heap.size+1) 24 #[.string ⟨#[107,101,121]⟩,.string ⟨#[]⟩,.int .i64 0,.int .i64 (a:Nat),.slice none 0 0]:=(ze.kp (by(have:=ze.new (w2.alloc (.cells #[.int .i64 (K:Nat),.string ⟨#[107,101,121]⟩,.int .i64 (M:Nat),.int .i64 (a:Nat)] 100)) 24 #[.string ⟨#[107,101,121]⟩,.string ⟨#[]⟩,.int .i64 0,.int .i64 (a:Nat),.slice none 0 0];simpa using this)) hk3 (by omega)));have n0:=hN3.cell 0;have m0:=hN3.free 0;have n1:=hN3.cell 1;have m1:=hN3.free 1;have n2:=hN3.cell 2;have m2:=hN3.free 2;have n3:=hN3.cell 3;have m3:=hN3.free 3;have n4:=hN3.cell 4;have m4:=hN3.free 4;have hlN:=hN3.lt;have hR3:=((hR2.alloc _).alloc _).kp hk3 (by omega);have hK3:Kp pb w w3:=(zy (zd _ _) hk2).trans (zy (qv _ _ _) hk3);(have hpN:pb<w2.heap.size+1:=by omega);(have hwN:w.heap.size≤w2.heap.size+1:=by omega);(have hneR:w.heap.size≠w2.heap.size+1:=by omega);(simp only[qt]))
    |((refine zf 18 rfl ?_)
      (refine zb (some 18) (.string (bs u.1.s)) rfl rfl (by kernel_rfl) ?_))
    |(go_at_call 132;refine(hki _).mono ?_;rintro e w1 ⟨rfl,rfl⟩)
    |(go_at_call 130;refine zh 1 (.func (.func 150) #[] _) rfl ?_;refine(htk3 _ _ (hp3.set (q:=⟨w2.heap.size+1,1,none⟩) hpN _) (by simp)).mono ?_;rintro e w4 ⟨hk4,rfl⟩))
   exact⟨rfl,(hK3.setNew (q:=⟨w2.heap.size+1,1,none⟩) hwN _).trans hk4,by rw[HR.out]⟩
  |ok xr =>
   obtain⟨x,r3⟩:=xr;rw[hT3]at htk3;cases hT9:zn (qM [59]) en r3 with
   |error er =>
    obtain⟨c9,q9⟩:=er;have htk9:=λW q h e=>htk9 (r:=r3) W q h e
    rw[hT9]at htk9;have HR:Hid _:=yD (t:=(⟨K,zT,M⟩,a)) (u:=u) (by rw[hrest];exact JI hT3) hT9;clear hT9 hT3 hrest;go_enter Tryz.func106,Tryz.ntmps106
    go_wp2_with (first
     |(go_at_call 131;refine zh 0 (.slice _ 6 6) rfl ?_;refine(qb _ _ _ _).mono ?_;rintro e w1 ⟨rfl,rfl⟩)
     |((go_at_call 130)
       refine zh 1 (.func (.func 149) #[] _) rfl ?_;refine(htk1 _).mono ?_;rintro e w2 ⟨hk2,rfl,hp2⟩;clear htk1;have hR2:ze w2 w.heap.size 24 #[.string ⟨#[]⟩,.string ⟨#[]⟩,.int .i64 0,.int .i64 0,.slice none 0 0]:=(ze.new w _ _).kp hk2 (by omega);have hlR2:=hR2.lt;(simp only[qt,VY]))
     |((go_at_call 130)
       refine zh 1 (.func (.func 113) #[] #[]) rfl ?_;refine(htk2 _ ((hp2.new _).new _)).mono ?_;rintro e w3 ⟨hk3,rfl,hp3⟩;(have hN3:ze w3 (w2.heap.size+1) 24 #[.string ⟨#[107,101,121]⟩,.string ⟨#[]⟩,.int .i64 0,.int .i64 (a:Nat),.slice none 0 0]:=(ze.kp (by(have:=ze.new (w2.alloc (.cells #[.int .i64 (K:Nat),.string ⟨#[107,101,121]⟩,.int .i64 (M:Nat),.int .i64 (a:Nat)] 100)) 24 #[.string ⟨#[107,101,121]⟩,.string ⟨#[]⟩,.int .i64 0,.int .i64 (a:Nat),.slice none 0 0];simpa using this)) hk3 (by omega)));have n0:=hN3.cell 0;have m0:=hN3.free 0;have n1:=hN3.cell 1;have m1:=hN3.free 1;have n2:=hN3.cell 2;have m2:=hN3.free 2;have n3:=hN3.cell 3;have m3:=hN3.free 3;have n4:=hN3.cell 4;have m4:=hN3.free 4;have hlN:=hN3.lt;have hR3:=((hR2.alloc _).alloc _).kp hk3 (by omega);have hK3:Kp pb w w3:=(zy (zd _ _) hk2).trans (zy (qv _ _ _) hk3);(have hpN:pb<w2.heap.size+1:=by omega);(have hwN:w.heap.size≤w2.heap.size+1:=by omega);(have hneR:w.heap.size≠w2.heap.size+1:=by omega);(simp only[qt]))
     |((refine zf 18 rfl ?_)
       (refine zb (some 18) (.string (bs u.1.s)) rfl rfl (by kernel_rfl) ?_))
     |(go_at_call 132;refine(hki _).mono ?_;rintro e w1 ⟨rfl,rfl⟩)
     |((go_at_call 130)
       refine zh 1 (.func (.func 150) #[] _) rfl ?_;refine(htk3 _ _ (hp3.set (q:=⟨w2.heap.size+1,1,none⟩) hpN _) (by simp)).mono ?_;rintro e w4 ⟨hk4,rfl,hp4⟩;have hN4:=(hN3.putP 1 _).kp hk4 (by omega);have hR4:=(hR3.other (p:=⟨w2.heap.size+1,1,none⟩) hneR _).kp hk4 (by omega);have hK4:=(hK3.setNew (q:=⟨w2.heap.size+1,1,none⟩) hwN _).trans hk4;have y0:=hN4.cell 0;have z0:=hN4.free 0;have y1:=hN4.cell 1;have z1:=hN4.free 1;have y2:=hN4.cell 2;have z2:=hN4.free 2;have y3:=hN4.cell 3;have z3:=hN4.free 3;have y4:=hN4.cell 4;have z4:=hN4.free 4;have hlN4:=hN4.lt;have hlR4:=hR4.lt;(have hz24:w2.heap.size≠w4.heap.size:=by omega);(have hz25:w2.heap.size<w4.heap.size:=by omega);(simp only[qt]))
     |(go_at_call 133;refine zh 0 (.string ⟨#[59]⟩) rfl ?_;refine(hs59 _).mono ?_;rintro e w1 ⟨rfl,rfl⟩)
     |(go_at_call 130;refine zh 1 (.func (.func 151) #[] _) rfl ?_;refine(htk9 _ _ (((hp4.set (q:=⟨w2.heap.size+1,4,none⟩) hpN _).new _).new _) (by simp)).mono ?_;rintro e w9 ⟨hk9,rfl⟩))
    exact⟨rfl,(((hK4.setNew (q:=⟨w2.heap.size+1,4,none⟩) hwN _).alloc _).alloc _).trans hk9,by rw[HR.out]⟩
   |ok yr =>
    obtain⟨y9,r9⟩:=yr;have htk9:=λW q h e=>htk9 (r:=r3) W q h e
    rw[hT9]at htk9;have HR:Hid _:=xk (t:=(⟨K,zT,M⟩,a)) (u:=u) (by rw[hrest];exact JI hT3) hT9;clear hT9 hT3 hrest;go_enter Tryz.func106,Tryz.ntmps106
    go_wp2_with (first
     |(go_at_call 131;refine zh 0 (.slice _ 6 6) rfl ?_;refine(qb _ _ _ _).mono ?_;rintro e w1 ⟨rfl,rfl⟩)
     |((go_at_call 130)
       refine zh 1 (.func (.func 149) #[] _) rfl ?_;refine(htk1 _).mono ?_;rintro e w2 ⟨hk2,rfl,hp2⟩;clear htk1;have hR2:ze w2 w.heap.size 24 #[.string ⟨#[]⟩,.string ⟨#[]⟩,.int .i64 0,.int .i64 0,.slice none 0 0]:=(ze.new w _ _).kp hk2 (by omega);have hlR2:=hR2.lt;(simp only[qt,VY]))
     |((go_at_call 130)
       refine zh 1 (.func (.func 113) #[] #[]) rfl ?_;refine(htk2 _ ((hp2.new _).new _)).mono ?_;rintro e w3 ⟨hk3,rfl,hp3⟩;(have hN3:ze w3 (w2.heap.size+1) 24 #[.string ⟨#[107,101,121]⟩,.string ⟨#[]⟩,.int .i64 0,.int .i64 (a:Nat),.slice none 0 0]:=(ze.kp (by(have:=ze.new (w2.alloc (.cells #[.int .i64 (K:Nat),.string ⟨#[107,101,121]⟩,.int .i64 (M:Nat),.int .i64 (a:Nat)] 100)) 24 #[.string ⟨#[107,101,121]⟩,.string ⟨#[]⟩,.int .i64 0,.int .i64 (a:Nat),.slice none 0 0];simpa using this)) hk3 (by omega)));have n0:=hN3.cell 0;have m0:=hN3.free 0;have n1:=hN3.cell 1;have m1:=hN3.free 1;have n2:=hN3.cell 2;have m2:=hN3.free 2;have n3:=hN3.cell 3;have m3:=hN3.free 3;have n4:=hN3.cell 4;have m4:=hN3.free 4;have hlN:=hN3.lt;have hR3:=((hR2.alloc _).alloc _).kp hk3 (by omega);have hK3:Kp pb w w3:=(zy (zd _ _) hk2).trans (zy (qv _ _ _) hk3);(have hpN:pb<w2.heap.size+1:=by omega);(have hwN:w.heap.size≤w2.heap.size+1:=by omega);(have hneR:w.heap.size≠w2.heap.size+1:=by omega);(simp only[qt]))
     |((refine zf 18 rfl ?_)
       (refine zb (some 18) (.string (bs u.1.s)) rfl rfl (by kernel_rfl) ?_))
     |(go_at_call 132;refine(hki _).mono ?_;rintro e w1 ⟨rfl,rfl⟩)
     |((go_at_call 130)
       refine zh 1 (.func (.func 150) #[] _) rfl ?_;refine(htk3 _ _ (hp3.set (q:=⟨w2.heap.size+1,1,none⟩) hpN _) (by simp)).mono ?_;rintro e w4 ⟨hk4,rfl,hp4⟩;have hN4:=(hN3.putP 1 _).kp hk4 (by omega);have hR4:=(hR3.other (p:=⟨w2.heap.size+1,1,none⟩) hneR _).kp hk4 (by omega);have hK4:=(hK3.setNew (q:=⟨w2.heap.size+1,1,none⟩) hwN _).trans hk4;have y0:=hN4.cell 0;have z0:=hN4.free 0;have y1:=hN4.cell 1;have z1:=hN4.free 1;have y2:=hN4.cell 2;have z2:=hN4.free 2;have y3:=hN4.cell 3;have z3:=hN4.free 3;have y4:=hN4.cell 4;have z4:=hN4.free 4;have hlN4:=hN4.lt;have hlR4:=hR4.lt;(have hz24:w2.heap.size≠w4.heap.size:=by omega);(have hz25:w2.heap.size<w4.heap.size:=by omega);(simp only[qt]))
     |(go_at_call 133;refine zh 0 (.string ⟨#[59]⟩) rfl ?_;refine(hs59 _).mono ?_;rintro e w1 ⟨rfl,rfl⟩)
     |((go_at_call 130)
       refine zh 1 (.func (.func 151) #[] _) rfl ?_;refine(htk9 _ _ (((hp4.set (q:=⟨w2.heap.size+1,4,none⟩) hpN _).new _).new _) (by simp)).mono ?_;rintro e w9 ⟨hk9,rfl,hp9⟩;have hN9:=(((hN4.putP 4 _).alloc _).alloc _).kp hk9 (by omega);have hR9:=(((hR4.other (p:=⟨w2.heap.size+1,4,none⟩) hneR _).alloc _).alloc _).kp hk9 (by omega);have hK9:Kp pb w w9:=(((hK4.setNew (q:=⟨w2.heap.size+1,4,none⟩) hwN _).alloc _).alloc _).trans hk9;have x0:=hN9.cell 0;have r0:=hR9.cell 0;have f0:=hR9.free 0;have x1:=hN9.cell 1;have r1:=hR9.cell 1;have f1:=hR9.free 1;have x2:=hN9.cell 2;have r2:=hR9.cell 2;have f2:=hR9.free 2;have x3:=hN9.cell 3;have r3:=hR9.cell 3;have f3:=hR9.free 3;have x4:=hN9.cell 4;have r4:=hR9.cell 4;have f4:=hR9.free 4;have hlN9:=hN9.lt;(have hlR9:=hR9.lt)))
    refine zY rfl rfl (hR9.set5 _ _ _ _ _) rfl ⟨hK9.set5 (Nat.le_refl _) _ _ _ _ _,?_⟩;rw[HR.out];exact⟨some ⟨w4.heap.size+1,0,none⟩,1,rfl,((jB.single (P:=λg=>w4.heap.size≤g) (n:=(.mk Zn x.1.s 0 x.2 [])) (v:= .slice none 0 0) (G:=w4.heap.size+1) (ze.kp (by have:=ze.new ((w4.setCell ⟨w2.heap.size+1,4,none⟩ (.slice (some ⟨w4.heap.size+1,0,none⟩) 1 1)).alloc (.cells (qt x.1 x.2) 100)) 24 (zR (.mk Zn x.1.s 0 x.2 []) (.slice none 0 0));rw[show((w4.setCell ⟨w2.heap.size+1,4,none⟩ (.slice (some ⟨w4.heap.size+1,0,none⟩) 1 1)).alloc (.cells (qt x.1 x.2) 100)).heap.size=w4.heap.size+1 by simp]at this;exact this) hk9 (by omega)) (by omega) (jB.nil _ _)).set5 (λk hk=>by omega) _ _ _ _ _).mono (λg hg=>by omega),hp9.set5 hlt _ _ _ _ _⟩
theorem UM(pb en:Nat)(w:World)(ts r1:zo)(K M a:Nat)(h:jF w pb ts en)(hT1:zn (jD jt) en ts= .ok ((⟨K,zD,M⟩,a),r1)):
 Calls Tryz.prog 106 #[.pointer (some ⟨pb,0,none⟩)] w (ZE w pb en (qi en ts)):=by
 have hlt:=h.lt;have htk1:=λo=>vX w o h
 have htk2:=λW (h:jF W pb r1 en)=>yu h Ja.nm
 have hs59:∀W,Calls Tryz.prog 133 #[.string ⟨#[59]⟩] W λe w'=>e= .returned (.func (.func 151) #[] #[.pointer (some ⟨W.heap.size,0,none⟩)])∧w'=W.alloc (.cells #[.string ⟨#[59]⟩] 9):=λW=>vL [59] W
 have htk9:∀ {r:zo} W q,jF W pb r en→W.heap.size=q→Calls Tryz.prog 130 #[.pointer (some ⟨pb,0,none⟩),.func (.func 151) #[] #[.pointer (some ⟨q,0,none⟩)]] (W.alloc (.cells #[.string ⟨#[59]⟩] 9)) (xF W pb en (zn (qM [59]) en r)):=λW q h e=>e ▸ vO [59] h
 rw[hT1]at htk1;cases hT2:zn jl en r1 with
 |error er =>
  obtain⟨c,q⟩:=er;rw[hT2]at htk2;rw[xh hT1 hT2];clear hT1 hT2 h htk9 hs59;go_enter Tryz.func106,Tryz.ntmps106
  go_wp2_with (first
   |(go_at_call 131;refine zh 0 (.slice _ 6 6) rfl ?_;refine(qb _ _ _ _).mono ?_;rintro e w1 ⟨rfl,rfl⟩)
   |((go_at_call 130)
     refine zh 1 (.func (.func 149) #[] _) rfl ?_;refine(htk1 _).mono ?_;rintro e w2 ⟨hk2,rfl,hp2⟩;clear htk1;have hR2:ze w2 w.heap.size 24 #[.string ⟨#[]⟩,.string ⟨#[]⟩,.int .i64 0,.int .i64 0,.slice none 0 0]:=(ze.new w _ _).kp hk2 (by omega);have hlR2:=hR2.lt;(simp only[qt,Jg]))
   |(go_at_call 130;refine zh 1 (.func (.func 113) #[] #[]) rfl ?_;refine(htk2 _ ((hp2.new _).new _)).mono ?_;rintro e w3 ⟨hk3,rfl⟩))
  exact⟨rfl,(zy (zd _ _) hk2).trans (zy (qv _ _ _) hk3),rfl⟩
 |ok ur =>
  obtain⟨u,r2⟩:=ur;rw[hT2]at htk2;rw[vV hT1 hT2];have hrest:qV (⟨K,zD,M⟩:Tk).s=Ks:=fy;clear hT1 hT2 h;have hki:∀W,Calls Tryz.prog 132 #[.int .i64 2] W λe w'=>e= .returned (.func (.func 150) #[] #[.pointer (some ⟨W.heap.size,0,none⟩)])∧w'=W.alloc (.cells #[.int .i64 2] 98):=λW=>ZQ 2 W
  have htk3:∀W q,jF W pb r2 en→W.heap.size=q→Calls Tryz.prog 130 #[.pointer (some ⟨pb,0,none⟩),.func (.func 150) #[] #[.pointer (some ⟨q,0,none⟩)]] (W.alloc (.cells #[.int .i64 2] 98)) (xF W pb en (zn (jS 2) en r2)):=λW q h e=>e ▸ QG 2 h
  cases hT3:zn (jS 2) en r2 with
  |error er =>
   obtain⟨c,q⟩:=er;rw[hT3]at htk3;have HR:Hid _:=xe (t:=(⟨K,zD,M⟩,a)) (u:=u) (by rw[hrest];exact Gk hT3);clear hT3 hrest htk9 hs59;go_enter Tryz.func106,Tryz.ntmps106
   go_wp2_with (first
    |(go_at_call 131;refine zh 0 (.slice _ 6 6) rfl ?_;refine(qb _ _ _ _).mono ?_;rintro e w1 ⟨rfl,rfl⟩)
    |((go_at_call 130)
      refine zh 1 (.func (.func 149) #[] _) rfl ?_;refine(htk1 _).mono ?_;rintro e w2 ⟨hk2,rfl,hp2⟩;clear htk1;have hR2:ze w2 w.heap.size 24 #[.string ⟨#[]⟩,.string ⟨#[]⟩,.int .i64 0,.int .i64 0,.slice none 0 0]:=(ze.new w _ _).kp hk2 (by omega);have hlR2:=hR2.lt;(simp only[qt,Jg]))
    |((go_at_call 130)
      refine zh 1 (.func (.func 113) #[] #[]) rfl ?_;refine(htk2 _ ((hp2.new _).new _)).mono ?_;rintro e w3 ⟨hk3,rfl,hp3⟩;(have hN3:ze w3 (w2.heap.size+1) 24 #[.string ⟨#[114,111,111,116]⟩,.string ⟨#[]⟩,.int .i64 0,.int .i64 (a:Nat),.slice none 0 0]:=(ze.kp (by(have:=ze.new (w2.alloc (.cells #[.int .i64 (K:Nat),.string ⟨#[114,111,111,116]⟩,.int .i64 (M:Nat),.int .i64 (a:Nat)] 100)) 24 #[.string ⟨#[114,111,111,116]⟩,.string ⟨#[]⟩,.int .i64 0,.int .i64 (a:Nat),.slice none 0 0];simpa using this)) hk3 (by omega)));have n0:=hN3.cell 0;have m0:=hN3.free 0;have n1:=hN3.cell 1;have m1:=hN3.free 1;have n2:=hN3.cell 2;have m2:=hN3.free 2;have n3:=hN3.cell 3;have m3:=hN3.free 3;have n4:=hN3.cell 4;have m4:=hN3.free 4;have hlN:=hN3.lt;have hR3:=((hR2.alloc _).alloc _).kp hk3 (by omega);have hK3:Kp pb w w3:=(zy (zd _ _) hk2).trans (zy (qv _ _ _) hk3);(have hpN:pb<w2.heap.size+1:=by omega);(have hwN:w.heap.size≤w2.heap.size+1:=by omega);(have hneR:w.heap.size≠w2.heap.size+1:=by omega);(simp only[qt]))
    |((refine zf 18 rfl ?_)
      (refine zb (some 18) (.string (bs u.1.s)) rfl rfl (by kernel_rfl) ?_))
    |(go_at_call 132;refine(hki _).mono ?_;rintro e w1 ⟨rfl,rfl⟩)
    |(go_at_call 130;refine zh 1 (.func (.func 150) #[] _) rfl ?_;refine(htk3 _ _ (hp3.set (q:=⟨w2.heap.size+1,1,none⟩) hpN _) (by simp)).mono ?_;rintro e w4 ⟨hk4,rfl⟩))
   exact⟨rfl,(hK3.setNew (q:=⟨w2.heap.size+1,1,none⟩) hwN _).trans hk4,by rw[HR.out]⟩
  |ok xr =>
   obtain⟨x,r3⟩:=xr;rw[hT3]at htk3;cases hT9:zn (qM [59]) en r3 with
   |error er =>
    obtain⟨c9,q9⟩:=er;have htk9:=λW q h e=>htk9 (r:=r3) W q h e
    rw[hT9]at htk9;have HR:Hid _:=yD (t:=(⟨K,zD,M⟩,a)) (u:=u) (by rw[hrest];exact JI hT3) hT9;clear hT9 hT3 hrest;go_enter Tryz.func106,Tryz.ntmps106
    go_wp2_with (first
     |(go_at_call 131;refine zh 0 (.slice _ 6 6) rfl ?_;refine(qb _ _ _ _).mono ?_;rintro e w1 ⟨rfl,rfl⟩)
     |((go_at_call 130)
       refine zh 1 (.func (.func 149) #[] _) rfl ?_;refine(htk1 _).mono ?_;rintro e w2 ⟨hk2,rfl,hp2⟩;clear htk1;have hR2:ze w2 w.heap.size 24 #[.string ⟨#[]⟩,.string ⟨#[]⟩,.int .i64 0,.int .i64 0,.slice none 0 0]:=(ze.new w _ _).kp hk2 (by omega);have hlR2:=hR2.lt;(simp only[qt,Jg]))
     |((go_at_call 130)
       refine zh 1 (.func (.func 113) #[] #[]) rfl ?_;refine(htk2 _ ((hp2.new _).new _)).mono ?_;rintro e w3 ⟨hk3,rfl,hp3⟩;(have hN3:ze w3 (w2.heap.size+1) 24 #[.string ⟨#[114,111,111,116]⟩,.string ⟨#[]⟩,.int .i64 0,.int .i64 (a:Nat),.slice none 0 0]:=(ze.kp (by(have:=ze.new (w2.alloc (.cells #[.int .i64 (K:Nat),.string ⟨#[114,111,111,116]⟩,.int .i64 (M:Nat),.int .i64 (a:Nat)] 100)) 24 #[.string ⟨#[114,111,111,116]⟩,.string ⟨#[]⟩,.int .i64 0,.int .i64 (a:Nat),.slice none 0 0];simpa using this)) hk3 (by omega)));have n0:=hN3.cell 0;have m0:=hN3.free 0;have n1:=hN3.cell 1;have m1:=hN3.free 1;have n2:=hN3.cell 2;have m2:=hN3.free 2;have n3:=hN3.cell 3;have m3:=hN3.free 3;have n4:=hN3.cell 4;have m4:=hN3.free 4;have hlN:=hN3.lt;have hR3:=((hR2.alloc _).alloc _).kp hk3 (by omega);have hK3:Kp pb w w3:=(zy (zd _ _) hk2).trans (zy (qv _ _ _) hk3);(have hpN:pb<w2.heap.size+1:=by omega);(have hwN:w.heap.size≤w2.heap.size+1:=by omega);(have hneR:w.heap.size≠w2.heap.size+1:=by omega);(simp only[qt]))
     |((refine zf 18 rfl ?_)
       (refine zb (some 18) (.string (bs u.1.s)) rfl rfl (by kernel_rfl) ?_))
     |(go_at_call 132;refine(hki _).mono ?_;rintro e w1 ⟨rfl,rfl⟩)
     |((go_at_call 130)
       refine zh 1 (.func (.func 150) #[] _) rfl ?_;refine(htk3 _ _ (hp3.set (q:=⟨w2.heap.size+1,1,none⟩) hpN _) (by simp)).mono ?_;rintro e w4 ⟨hk4,rfl,hp4⟩;have hN4:=(hN3.putP 1 _).kp hk4 (by omega);have hR4:=(hR3.other (p:=⟨w2.heap.size+1,1,none⟩) hneR _).kp hk4 (by omega);have hK4:=(hK3.setNew (q:=⟨w2.heap.size+1,1,none⟩) hwN _).trans hk4;have y0:=hN4.cell 0;have z0:=hN4.free 0;have y1:=hN4.cell 1;have z1:=hN4.free 1;have y2:=hN4.cell 2;have z2:=hN4.free 2;have y3:=hN4.cell 3;have z3:=hN4.free 3;have y4:=hN4.cell 4;have z4:=hN4.free 4;have hlN4:=hN4.lt;have hlR4:=hR4.lt;(have hz24:w2.heap.size≠w4.heap.size:=by omega);(have hz25:w2.heap.size<w4.heap.size:=by omega);(simp only[qt]))
     |(go_at_call 133;refine zh 0 (.string ⟨#[59]⟩) rfl ?_;refine(hs59 _).mono ?_;rintro e w1 ⟨rfl,rfl⟩)
     |(go_at_call 130;refine zh 1 (.func (.func 151) #[] _) rfl ?_;refine(htk9 _ _ (((hp4.set (q:=⟨w2.heap.size+1,4,none⟩) hpN _).new _).new _) (by simp)).mono ?_;rintro e w9 ⟨hk9,rfl⟩))
    exact⟨rfl,(((hK4.setNew (q:=⟨w2.heap.size+1,4,none⟩) hwN _).alloc _).alloc _).trans hk9,by rw[HR.out]⟩
   |ok yr =>
    obtain⟨y9,r9⟩:=yr;have htk9:=λW q h e=>htk9 (r:=r3) W q h e
    rw[hT9]at htk9;have HR:Hid _:=xk (t:=(⟨K,zD,M⟩,a)) (u:=u) (by rw[hrest];exact JI hT3) hT9;clear hT9 hT3 hrest;go_enter Tryz.func106,Tryz.ntmps106
    go_wp2_with (first
     |(go_at_call 131;refine zh 0 (.slice _ 6 6) rfl ?_;refine(qb _ _ _ _).mono ?_;rintro e w1 ⟨rfl,rfl⟩)
     |((go_at_call 130)
       refine zh 1 (.func (.func 149) #[] _) rfl ?_;refine(htk1 _).mono ?_;rintro e w2 ⟨hk2,rfl,hp2⟩;clear htk1;have hR2:ze w2 w.heap.size 24 #[.string ⟨#[]⟩,.string ⟨#[]⟩,.int .i64 0,.int .i64 0,.slice none 0 0]:=(ze.new w _ _).kp hk2 (by omega);have hlR2:=hR2.lt;(simp only[qt,Jg]))
     |((go_at_call 130)
       refine zh 1 (.func (.func 113) #[] #[]) rfl ?_;refine(htk2 _ ((hp2.new _).new _)).mono ?_;rintro e w3 ⟨hk3,rfl,hp3⟩;(have hN3:ze w3 (w2.heap.size+1) 24 #[.string ⟨#[114,111,111,116]⟩,.string ⟨#[]⟩,.int .i64 0,.int .i64 (a:Nat),.slice none 0 0]:=(ze.kp (by(have:=ze.new (w2.alloc (.cells #[.int .i64 (K:Nat),.string ⟨#[114,111,111,116]⟩,.int .i64 (M:Nat),.int .i64 (a:Nat)] 100)) 24 #[.string ⟨#[114,111,111,116]⟩,.string ⟨#[]⟩,.int .i64 0,.int .i64 (a:Nat),.slice none 0 0];simpa using this)) hk3 (by omega)));have n0:=hN3.cell 0;have m0:=hN3.free 0;have n1:=hN3.cell 1;have m1:=hN3.free 1;have n2:=hN3.cell 2;have m2:=hN3.free 2;have n3:=hN3.cell 3;have m3:=hN3.free 3;have n4:=hN3.cell 4;have m4:=hN3.free 4;have hlN:=hN3.lt;have hR3:=((hR2.alloc _).alloc _).kp hk3 (by omega);have hK3:Kp pb w w3:=(zy (zd _ _) hk2).trans (zy (qv _ _ _) hk3);(have hpN:pb<w2.heap.size+1:=by omega);(have hwN:w.heap.size≤w2.heap.size+1:=by omega);(have hneR:w.heap.size≠w2.heap.size+1:=by omega);(simp only[qt]))
     |((refine zf 18 rfl ?_)
       (refine zb (some 18) (.string (bs u.1.s)) rfl rfl (by kernel_rfl) ?_))
     |(go_at_call 132;refine(hki _).mono ?_;rintro e w1 ⟨rfl,rfl⟩)
     |((go_at_call 130)
       refine zh 1 (.func (.func 150) #[] _) rfl ?_;refine(htk3 _ _ (hp3.set (q:=⟨w2.heap.size+1,1,none⟩) hpN _) (by simp)).mono ?_;rintro e w4 ⟨hk4,rfl,hp4⟩;have hN4:=(hN3.putP 1 _).kp hk4 (by omega);have hR4:=(hR3.other (p:=⟨w2.heap.size+1,1,none⟩) hneR _).kp hk4 (by omega);have hK4:=(hK3.setNew (q:=⟨w2.heap.size+1,1,none⟩) hwN _).trans hk4;have y0:=hN4.cell 0;have z0:=hN4.free 0;have y1:=hN4.cell 1;have z1:=hN4.free 1;have y2:=hN4.cell 2;have z2:=hN4.free 2;have y3:=hN4.cell 3;have z3:=hN4.free 3;have y4:=hN4.cell 4;have z4:=hN4.free 4;have hlN4:=hN4.lt;have hlR4:=hR4.lt;(have hz24:w2.heap.size≠w4.heap.size:=by omega);(have hz25:w2.heap.size<w4.heap.size:=by omega);(simp only[qt]))
     |(go_at_call 133;refine zh 0 (.string ⟨#[59]⟩) rfl ?_;refine(hs59 _).mono ?_;rintro e w1 ⟨rfl,rfl⟩)
     |((go_at_call 130)
       refine zh 1 (.func (.func 151) #[] _) rfl ?_;refine(htk9 _ _ (((hp4.set (q:=⟨w2.heap.size+1,4,none⟩) hpN _).new _).new _) (by simp)).mono ?_;rintro e w9 ⟨hk9,rfl,hp9⟩;have hN9:=(((hN4.putP 4 _).alloc _).alloc _).kp hk9 (by omega);have hR9:=(((hR4.other (p:=⟨w2.heap.size+1,4,none⟩) hneR _).alloc _).alloc _).kp hk9 (by omega);have hK9:Kp pb w w9:=(((hK4.setNew (q:=⟨w2.heap.size+1,4,none⟩) hwN _).alloc _).alloc _).trans hk9;have x0:=hN9.cell 0;have r0:=hR9.cell 0;have f0:=hR9.free 0;have x1:=hN9.cell 1;have r1:=hR9.cell 1;have f1:=hR9.free 1;have x2:=hN9.cell 2;have r2:=hR9.cell 2;have f2:=hR9.free 2;have x3:=hN9.cell 3;have r3:=hR9.cell 3;have f3:=hR9.free 3;have x4:=hN9.cell 4;have r4:=hR9.cell 4;have f4:=hR9.free 4;have hlN9:=hN9.lt;(have hlR9:=hR9.lt)))
    refine zY rfl rfl (hR9.set5 _ _ _ _ _) rfl ⟨hK9.set5 (Nat.le_refl _) _ _ _ _ _,?_⟩;rw[HR.out];exact⟨some ⟨w4.heap.size+1,0,none⟩,1,rfl,((jB.single (P:=λg=>w4.heap.size≤g) (n:=(.mk Zn x.1.s 0 x.2 [])) (v:= .slice none 0 0) (G:=w4.heap.size+1) (ze.kp (by have:=ze.new ((w4.setCell ⟨w2.heap.size+1,4,none⟩ (.slice (some ⟨w4.heap.size+1,0,none⟩) 1 1)).alloc (.cells (qt x.1 x.2) 100)) 24 (zR (.mk Zn x.1.s 0 x.2 []) (.slice none 0 0));rw[show((w4.setCell ⟨w2.heap.size+1,4,none⟩ (.slice (some ⟨w4.heap.size+1,0,none⟩) 1 1)).alloc (.cells (qt x.1 x.2) 100)).heap.size=w4.heap.size+1 by simp]at this;exact this) hk9 (by omega)) (by omega) (jB.nil _ _)).set5 (λk hk=>by omega) _ _ _ _ _).mono (λg hg=>by omega),hp9.set5 hlt _ _ _ _ _⟩
theorem Y1(pb en:Nat)(w:World)(ts r1:zo)(K M a:Nat)(h:jF w pb ts en)(hT1:zn (jD jt) en ts= .ok ((⟨K,zp,M⟩,a),r1)):
 Calls Tryz.prog 106 #[.pointer (some ⟨pb,0,none⟩)] w (ZE w pb en (qi en ts)):=by
 have hlt:=h.lt;have htk1:=λo=>vX w o h
 have htk2:=λW (h:jF W pb r1 en)=>yu h Ja.nm
 have hs59:∀W,Calls Tryz.prog 133 #[.string ⟨#[59]⟩] W λe w'=>e= .returned (.func (.func 151) #[] #[.pointer (some ⟨W.heap.size,0,none⟩)])∧w'=W.alloc (.cells #[.string ⟨#[59]⟩] 9):=λW=>vL [59] W
 have htk9:∀ {r:zo} W q,jF W pb r en→W.heap.size=q→Calls Tryz.prog 130 #[.pointer (some ⟨pb,0,none⟩),.func (.func 151) #[] #[.pointer (some ⟨q,0,none⟩)]] (W.alloc (.cells #[.string ⟨#[59]⟩] 9)) (xF W pb en (zn (qM [59]) en r)):=λW q h e=>e ▸ vO [59] h
 rw[hT1]at htk1;cases hT2:zn jl en r1 with
 |error er =>
  obtain⟨c,q⟩:=er;rw[hT2]at htk2;rw[xh hT1 hT2];clear hT1 hT2 h htk9 hs59;go_enter Tryz.func106,Tryz.ntmps106
  go_wp2_with (first
   |(go_at_call 131;refine zh 0 (.slice _ 6 6) rfl ?_;refine(qb _ _ _ _).mono ?_;rintro e w1 ⟨rfl,rfl⟩)
   |((go_at_call 130)
     refine zh 1 (.func (.func 149) #[] _) rfl ?_;refine(htk1 _).mono ?_;rintro e w2 ⟨hk2,rfl,hp2⟩;clear htk1;have hR2:ze w2 w.heap.size 24 #[.string ⟨#[]⟩,.string ⟨#[]⟩,.int .i64 0,.int .i64 0,.slice none 0 0]:=(ze.new w _ _).kp hk2 (by omega);have hlR2:=hR2.lt;(simp only[qt,xo]))
   |(go_at_call 130;refine zh 1 (.func (.func 113) #[] #[]) rfl ?_;refine(htk2 _ ((hp2.new _).new _)).mono ?_;rintro e w3 ⟨hk3,rfl⟩))
  exact⟨rfl,(zy (zd _ _) hk2).trans (zy (qv _ _ _) hk3),rfl⟩
 |ok ur =>
  obtain⟨u,r2⟩:=ur;rw[hT2]at htk2;rw[vV hT1 hT2];have hrest:qV (⟨K,zp,M⟩:Tk).s=X6:=kJ;clear hT1 hT2 h;have hs61:∀W,Calls Tryz.prog 133 #[.string ⟨#[61]⟩] W λe w'=>e= .returned (.func (.func 151) #[] #[.pointer (some ⟨W.heap.size,0,none⟩)])∧w'=W.alloc (.cells #[.string ⟨#[61]⟩] 9):=λW=>vL [61] W
  have htk3:∀W q,jF W pb r2 en→W.heap.size=q→Calls Tryz.prog 130 #[.pointer (some ⟨pb,0,none⟩),.func (.func 151) #[] #[.pointer (some ⟨q,0,none⟩)]] (W.alloc (.cells #[.string ⟨#[61]⟩] 9)) (xF W pb en (zn (qM [61]) en r2)):=λW q h e=>e ▸ vO [61] h
  have hex1:∀W r,jF W pb r en→Calls Tryz.prog 134 #[.pointer (some ⟨pb,0,none⟩),.int .i64 1] W (ZE W pb en (zC 12 en r)):=λW r h=>zan pb en 12 1 W r rfl h
  cases hT3:zn (qM [61]) en r2 with
  |error er =>
   obtain⟨c,q⟩:=er;rw[hT3]at htk3;have HR:Hid _:=xe (t:=(⟨K,zp,M⟩,a)) (u:=u) (by rw[hrest];exact Hh hT3);clear hT3 hrest htk9 hs59;go_enter Tryz.func106,Tryz.ntmps106
   go_wp2_with (first
    |(go_at_call 131;refine zh 0 (.slice _ 6 6) rfl ?_;refine(qb _ _ _ _).mono ?_;rintro e w1 ⟨rfl,rfl⟩)
    |((go_at_call 130)
      refine zh 1 (.func (.func 149) #[] _) rfl ?_;refine(htk1 _).mono ?_;rintro e w2 ⟨hk2,rfl,hp2⟩;clear htk1;have hR2:ze w2 w.heap.size 24 #[.string ⟨#[]⟩,.string ⟨#[]⟩,.int .i64 0,.int .i64 0,.slice none 0 0]:=(ze.new w _ _).kp hk2 (by omega);have hlR2:=hR2.lt;(simp only[qt,xo]))
    |((go_at_call 130)
      refine zh 1 (.func (.func 113) #[] #[]) rfl ?_;refine(htk2 _ ((hp2.new _).new _)).mono ?_;rintro e w3 ⟨hk3,rfl,hp3⟩;(have hN3:ze w3 (w2.heap.size+1) 24 #[.string ⟨#[118,111,108,117,109,101]⟩,.string ⟨#[]⟩,.int .i64 0,.int .i64 (a:Nat),.slice none 0 0]:=(ze.kp (by(have:=ze.new (w2.alloc (.cells #[.int .i64 (K:Nat),.string ⟨#[118,111,108,117,109,101]⟩,.int .i64 (M:Nat),.int .i64 (a:Nat)] 100)) 24 #[.string ⟨#[118,111,108,117,109,101]⟩,.string ⟨#[]⟩,.int .i64 0,.int .i64 (a:Nat),.slice none 0 0];simpa using this)) hk3 (by omega)));have n0:=hN3.cell 0;have m0:=hN3.free 0;have n1:=hN3.cell 1;have m1:=hN3.free 1;have n2:=hN3.cell 2;have m2:=hN3.free 2;have n3:=hN3.cell 3;have m3:=hN3.free 3;have n4:=hN3.cell 4;have m4:=hN3.free 4;have hlN:=hN3.lt;have hR3:=((hR2.alloc _).alloc _).kp hk3 (by omega);have hK3:Kp pb w w3:=(zy (zd _ _) hk2).trans (zy (qv _ _ _) hk3);(have hpN:pb<w2.heap.size+1:=by omega);(have hwN:w.heap.size≤w2.heap.size+1:=by omega);(have hneR:w.heap.size≠w2.heap.size+1:=by omega);(simp only[qt]))
    |((refine zf 18 rfl ?_)
      (refine zb (some 18) (.string (bs u.1.s)) rfl rfl (by kernel_rfl) ?_))
    |(go_at_call 133;refine zh 0 (.string ⟨#[61]⟩) rfl ?_;refine(hs61 _).mono ?_;rintro e w1 ⟨rfl,rfl⟩)
    |(go_at_call 130;refine zh 1 (.func (.func 151) #[] _) rfl ?_;refine(htk3 _ _ (hp3.set (q:=⟨w2.heap.size+1,1,none⟩) hpN _) (by simp)).mono ?_;rintro e w4 ⟨hk4,rfl⟩))
   exact⟨rfl,(hK3.setNew (q:=⟨w2.heap.size+1,1,none⟩) hwN _).trans hk4,by rw[HR.out]⟩
  |ok xr =>
   obtain⟨x,r3⟩:=xr;rw[hT3]at htk3;have hex1:=λW=>hex1 W r3
   cases hE:zC 12 en r3 with
   |error er =>
    obtain⟨c,q⟩:=er;rw[hE]at hex1;have HR:Hid _:=xe (t:=(⟨K,zp,M⟩,a)) (u:=u) (by rw[hrest];exact Dr hT3 hE);clear hT3 hE hrest htk9 hs59;go_enter Tryz.func106,Tryz.ntmps106
    go_wp2_with (first
     |(go_at_call 131;refine zh 0 (.slice _ 6 6) rfl ?_;refine(qb _ _ _ _).mono ?_;rintro e w1 ⟨rfl,rfl⟩)
     |((go_at_call 130)
       refine zh 1 (.func (.func 149) #[] _) rfl ?_;refine(htk1 _).mono ?_;rintro e w2 ⟨hk2,rfl,hp2⟩;clear htk1;have hR2:ze w2 w.heap.size 24 #[.string ⟨#[]⟩,.string ⟨#[]⟩,.int .i64 0,.int .i64 0,.slice none 0 0]:=(ze.new w _ _).kp hk2 (by omega);have hlR2:=hR2.lt;(simp only[qt,xo]))
     |((go_at_call 130)
       refine zh 1 (.func (.func 113) #[] #[]) rfl ?_;refine(htk2 _ ((hp2.new _).new _)).mono ?_;rintro e w3 ⟨hk3,rfl,hp3⟩;(have hN3:ze w3 (w2.heap.size+1) 24 #[.string ⟨#[118,111,108,117,109,101]⟩,.string ⟨#[]⟩,.int .i64 0,.int .i64 (a:Nat),.slice none 0 0]:=(ze.kp (by(have:=ze.new (w2.alloc (.cells #[.int .i64 (K:Nat),.string ⟨#[118,111,108,117,109,101]⟩,.int .i64 (M:Nat),.int .i64 (a:Nat)] 100)) 24 #[.string ⟨#[118,111,108,117,109,101]⟩,.string ⟨#[]⟩,.int .i64 0,.int .i64 (a:Nat),.slice none 0 0];simpa using this)) hk3 (by omega)));have n0:=hN3.cell 0;have m0:=hN3.free 0;have n1:=hN3.cell 1;have m1:=hN3.free 1;have n2:=hN3.cell 2;have m2:=hN3.free 2;have n3:=hN3.cell 3;have m3:=hN3.free 3;have n4:=hN3.cell 4;have m4:=hN3.free 4;have hlN:=hN3.lt;have hR3:=((hR2.alloc _).alloc _).kp hk3 (by omega);have hK3:Kp pb w w3:=(zy (zd _ _) hk2).trans (zy (qv _ _ _) hk3);(have hpN:pb<w2.heap.size+1:=by omega);(have hwN:w.heap.size≤w2.heap.size+1:=by omega);(have hneR:w.heap.size≠w2.heap.size+1:=by omega);(simp only[qt]))
     |((refine zf 18 rfl ?_)
       (refine zb (some 18) (.string (bs u.1.s)) rfl rfl (by kernel_rfl) ?_))
     |(go_at_call 133;refine zh 0 (.string ⟨#[61]⟩) rfl ?_;refine(hs61 _).mono ?_;rintro e w1 ⟨rfl,rfl⟩)
     |((go_at_call 130)
       refine zh 1 (.func (.func 151) #[] _) rfl ?_;refine(htk3 _ _ (hp3.set (q:=⟨w2.heap.size+1,1,none⟩) hpN _) (by simp)).mono ?_;rintro e w4 ⟨hk4,rfl,hp4⟩;clear htk3;have hN4:=(hN3.putP 1 _).kp hk4 (by omega);have hR4:=(hR3.other (p:=⟨w2.heap.size+1,1,none⟩) hneR _).kp hk4 (by omega);have hK4:=(hK3.setNew (q:=⟨w2.heap.size+1,1,none⟩) hwN _).trans hk4;have hlN4:=hN4.lt;(have hlR4:=hR4.lt))
     |(go_at_call 134;refine(hex1 _ hp4).mono ?_;rintro e w5 ⟨hk5,rfl⟩))
    exact⟨rfl,hK4.trans hk5,by rw[HR.out]⟩
   |ok er =>
    obtain⟨n,r4⟩:=er;rw[hE]at hex1;cases hT9:zn (qM [59]) en r4 with
    |error er =>
     obtain⟨c9,q9⟩:=er;have htk9:=λW q h e=>htk9 (r:=r4) W q h e
     rw[hT9]at htk9;have HR:Hid _:=yD (t:=(⟨K,zp,M⟩,a)) (u:=u) (by rw[hrest];exact uX hT3 hE) hT9;clear hT9 hT3 hE hrest;go_enter Tryz.func106,Tryz.ntmps106
     go_wp2_with (first
      |(go_at_call 131;refine zh 0 (.slice _ 6 6) rfl ?_;refine(qb _ _ _ _).mono ?_;rintro e w1 ⟨rfl,rfl⟩)
      |((go_at_call 130)
        refine zh 1 (.func (.func 149) #[] _) rfl ?_;refine(htk1 _).mono ?_;rintro e w2 ⟨hk2,rfl,hp2⟩;clear htk1;have hR2:ze w2 w.heap.size 24 #[.string ⟨#[]⟩,.string ⟨#[]⟩,.int .i64 0,.int .i64 0,.slice none 0 0]:=(ze.new w _ _).kp hk2 (by omega);have hlR2:=hR2.lt;(simp only[qt,xo]))
      |((go_at_call 130)
        refine zh 1 (.func (.func 113) #[] #[]) rfl ?_;refine(htk2 _ ((hp2.new _).new _)).mono ?_;rintro e w3 ⟨hk3,rfl,hp3⟩;(have hN3:ze w3 (w2.heap.size+1) 24 #[.string ⟨#[118,111,108,117,109,101]⟩,.string ⟨#[]⟩,.int .i64 0,.int .i64 (a:Nat),.slice none 0 0]:=(ze.kp (by(have:=ze.new (w2.alloc (.cells #[.int .i64 (K:Nat),.string ⟨#[118,111,108,117,109,101]⟩,.int .i64 (M:Nat),.int .i64 (a:Nat)] 100)) 24 #[.string ⟨#[118,111,108,117,109,101]⟩,.string ⟨#[]⟩,.int .i64 0,.int .i64 (a:Nat),.slice none 0 0];simpa using this)) hk3 (by omega)));have n0:=hN3.cell 0;have m0:=hN3.free 0;have n1:=hN3.cell 1;have m1:=hN3.free 1;have n2:=hN3.cell 2;have m2:=hN3.free 2;have n3:=hN3.cell 3;have m3:=hN3.free 3;have n4:=hN3.cell 4;have m4:=hN3.free 4;have hlN:=hN3.lt;have hR3:=((hR2.alloc _).alloc _).kp hk3 (by omega);have hK3:Kp pb w w3:=(zy (zd _ _) hk2).trans (zy (qv _ _ _) hk3);(have hpN:pb<w2.heap.size+1:=by omega);(have hwN:w.heap.size≤w2.heap.size+1:=by omega);(have hneR:w.heap.size≠w2.heap.size+1:=by omega);(simp only[qt]))
      |((refine zf 18 rfl ?_)
        (refine zb (some 18) (.string (bs u.1.s)) rfl rfl (by kernel_rfl) ?_))
      |(go_at_call 133;refine zh 0 (.string ⟨#[61]⟩) rfl ?_;refine(hs61 _).mono ?_;rintro e w1 ⟨rfl,rfl⟩)
      |((go_at_call 130)
        refine zh 1 (.func (.func 151) #[] _) rfl ?_;refine(htk3 _ _ (hp3.set (q:=⟨w2.heap.size+1,1,none⟩) hpN _) (by simp)).mono ?_;rintro e w4 ⟨hk4,rfl,hp4⟩;clear htk3;have hN4:=(hN3.putP 1 _).kp hk4 (by omega);have hR4:=(hR3.other (p:=⟨w2.heap.size+1,1,none⟩) hneR _).kp hk4 (by omega);have hK4:=(hK3.setNew (q:=⟨w2.heap.size+1,1,none⟩) hwN _).trans hk4;have hlN4:=hN4.lt;(have hlR4:=hR4.lt))
      |((go_at_call 134)
        refine(hex1 _ hp4).mono ?_;rintro e w5 ⟨hk5,A5,C5,rfl,hn5,hp5⟩;have hz5:=hk5.size;have hN5:=hN4.kp hk5 (by omega);have hR5:=hR4.kp hk5 (by omega);have hK5:=hK4.trans hk5;have y0:=hN5.cell 0;have z0:=hN5.free 0;have y1:=hN5.cell 1;have z1:=hN5.free 1;have y2:=hN5.cell 2;have z2:=hN5.free 2;have y3:=hN5.cell 3;have z3:=hN5.free 3;have y4:=hN5.cell 4;have z4:=hN5.free 4;have hlN5:=hN5.lt;have hlR5:=hR5.lt;(unfold zR))
      |(go_at_call 133;refine zh 0 (.string ⟨#[59]⟩) rfl ?_;refine(hs59 _).mono ?_;rintro e w1 ⟨rfl,rfl⟩)
      |(go_at_call 130;refine zh 1 (.func (.func 151) #[] _) rfl ?_;refine(htk9 _ _ ((hp5.set (q:=⟨w2.heap.size+1,4,none⟩) hpN _).new _) (by simp)).mono ?_;rintro e w9 ⟨hk9,rfl⟩))
     exact⟨rfl,((hK5.setNew (q:=⟨w2.heap.size+1,4,none⟩) hwN _).alloc _).trans hk9,by rw[HR.out]⟩
    |ok yr =>
     obtain⟨y9,r9⟩:=yr;have htk9:=λW q h e=>htk9 (r:=r4) W q h e
     rw[hT9]at htk9;have HR:Hid _:=xk (t:=(⟨K,zp,M⟩,a)) (u:=u) (by rw[hrest];exact uX hT3 hE) hT9;clear hT9 hT3 hE hrest;go_enter Tryz.func106,Tryz.ntmps106
     go_wp2_with (first
      |(go_at_call 131;refine zh 0 (.slice _ 6 6) rfl ?_;refine(qb _ _ _ _).mono ?_;rintro e w1 ⟨rfl,rfl⟩)
      |((go_at_call 130)
        refine zh 1 (.func (.func 149) #[] _) rfl ?_;refine(htk1 _).mono ?_;rintro e w2 ⟨hk2,rfl,hp2⟩;clear htk1;have hR2:ze w2 w.heap.size 24 #[.string ⟨#[]⟩,.string ⟨#[]⟩,.int .i64 0,.int .i64 0,.slice none 0 0]:=(ze.new w _ _).kp hk2 (by omega);have hlR2:=hR2.lt;(simp only[qt,xo]))
      |((go_at_call 130)
        refine zh 1 (.func (.func 113) #[] #[]) rfl ?_;refine(htk2 _ ((hp2.new _).new _)).mono ?_;rintro e w3 ⟨hk3,rfl,hp3⟩;(have hN3:ze w3 (w2.heap.size+1) 24 #[.string ⟨#[118,111,108,117,109,101]⟩,.string ⟨#[]⟩,.int .i64 0,.int .i64 (a:Nat),.slice none 0 0]:=(ze.kp (by(have:=ze.new (w2.alloc (.cells #[.int .i64 (K:Nat),.string ⟨#[118,111,108,117,109,101]⟩,.int .i64 (M:Nat),.int .i64 (a:Nat)] 100)) 24 #[.string ⟨#[118,111,108,117,109,101]⟩,.string ⟨#[]⟩,.int .i64 0,.int .i64 (a:Nat),.slice none 0 0];simpa using this)) hk3 (by omega)));have n0:=hN3.cell 0;have m0:=hN3.free 0;have n1:=hN3.cell 1;have m1:=hN3.free 1;have n2:=hN3.cell 2;have m2:=hN3.free 2;have n3:=hN3.cell 3;have m3:=hN3.free 3;have n4:=hN3.cell 4;have m4:=hN3.free 4;have hlN:=hN3.lt;have hR3:=((hR2.alloc _).alloc _).kp hk3 (by omega);have hK3:Kp pb w w3:=(zy (zd _ _) hk2).trans (zy (qv _ _ _) hk3);(have hpN:pb<w2.heap.size+1:=by omega);(have hwN:w.heap.size≤w2.heap.size+1:=by omega);(have hneR:w.heap.size≠w2.heap.size+1:=by omega);(simp only[qt]))
      |((refine zf 18 rfl ?_)
        (refine zb (some 18) (.string (bs u.1.s)) rfl rfl (by kernel_rfl) ?_))
      |(go_at_call 133;refine zh 0 (.string ⟨#[61]⟩) rfl ?_;refine(hs61 _).mono ?_;rintro e w1 ⟨rfl,rfl⟩)
      |((go_at_call 130)
        refine zh 1 (.func (.func 151) #[] _) rfl ?_;refine(htk3 _ _ (hp3.set (q:=⟨w2.heap.size+1,1,none⟩) hpN _) (by simp)).mono ?_;rintro e w4 ⟨hk4,rfl,hp4⟩;clear htk3;have hN4:=(hN3.putP 1 _).kp hk4 (by omega);have hR4:=(hR3.other (p:=⟨w2.heap.size+1,1,none⟩) hneR _).kp hk4 (by omega);have hK4:=(hK3.setNew (q:=⟨w2.heap.size+1,1,none⟩) hwN _).trans hk4;have hlN4:=hN4.lt;(have hlR4:=hR4.lt))
      |((go_at_call 134)
        refine(hex1 _ hp4).mono ?_;rintro e w5 ⟨hk5,A5,C5,rfl,hn5,hp5⟩;have hz5:=hk5.size;have hN5:=hN4.kp hk5 (by omega);have hR5:=hR4.kp hk5 (by omega);have hK5:=hK4.trans hk5;have y0:=hN5.cell 0;have z0:=hN5.free 0;have y1:=hN5.cell 1;have z1:=hN5.free 1;have y2:=hN5.cell 2;have z2:=hN5.free 2;have y3:=hN5.cell 3;have z3:=hN5.free 3;have y4:=hN5.cell 4;have z4:=hN5.free 4;have hlN5:=hN5.lt;have hlR5:=hR5.lt;(unfold zR))
      |(go_at_call 133;refine zh 0 (.string ⟨#[59]⟩) rfl ?_;refine(hs59 _).mono ?_;rintro e w1 ⟨rfl,rfl⟩)
      |((go_at_call 130)
        refine zh 1 (.func (.func 151) #[] _) rfl ?_;refine(htk9 _ _ ((hp5.set (q:=⟨w2.heap.size+1,4,none⟩) hpN _).new _) (by simp)).mono ?_;rintro e w9 ⟨hk9,rfl,hp9⟩;have hN9:=((hN5.putP 4 _).alloc _).kp hk9 (by omega);have hR9:=((hR5.other (p:=⟨w2.heap.size+1,4,none⟩) hneR _).alloc _).kp hk9 (by omega);have hK9:Kp pb w w9:=((hK5.setNew (q:=⟨w2.heap.size+1,4,none⟩) hwN _).alloc _).trans hk9;have x0:=hN9.cell 0;have r0:=hR9.cell 0;have f0:=hR9.free 0;have x1:=hN9.cell 1;have r1:=hR9.cell 1;have f1:=hR9.free 1;have x2:=hN9.cell 2;have r2:=hR9.cell 2;have f2:=hR9.free 2;have x3:=hN9.cell 3;have r3:=hR9.cell 3;have f3:=hR9.free 3;have x4:=hN9.cell 4;have r4:=hR9.cell 4;have f4:=hR9.free 4;have hlN9:=hN9.lt;(have hlR9:=hR9.lt)))
     refine zY rfl rfl (hR9.set5 _ _ _ _ _) rfl ⟨hK9.set5 (Nat.le_refl _) _ _ _ _ _,?_⟩;rw[HR.out];exact⟨some ⟨w5.heap.size,0,none⟩,1,rfl,(((jB.single (W:=(w5.setCell ⟨w2.heap.size+1,4,none⟩ (.slice (some ⟨w5.heap.size,0,none⟩) 1 1)).alloc (.cells (zR n (.slice A5 n.l.length C5)) 24)) (P:=λg=>w4.heap.size≤g) (n:=n) (v:= .slice A5 n.l.length C5) (G:=w5.heap.size) (by have:=ze.new (w5.setCell ⟨w2.heap.size+1,4,none⟩ (.slice (some ⟨w5.heap.size,0,none⟩) 1 1)) 24 (zR n (.slice A5 n.l.length C5));simpa using this) hz5 ((hn5.keep (λg o hg ho=>(Below.heap_setCell w5 ⟨w2.heap.size+1,4,none⟩ _ g (by show g≠w2.heap.size+1;omega)).trans ho)).grow (zd _ _))).kp hk9 (λg hg=>by omega)).set5 (λk hk=>by omega) _ _ _ _ _).mono (λg hg=>by omega),hp9.set5 hlt _ _ _ _ _⟩
theorem Xx(pb en:Nat)(w:World)(ts r1:zo)(K M a:Nat)(h:jF w pb ts en)(hT1:zn (jD jt) en ts= .ok ((⟨K,zv,M⟩,a),r1)):
 Calls Tryz.prog 106 #[.pointer (some ⟨pb,0,none⟩)] w (ZE w pb en (qi en ts)):=by
 have hlt:=h.lt;have htk1:=λo=>vX w o h
 have htk2:=λW (h:jF W pb r1 en)=>yu h Ja.nm
 have hs59:∀W,Calls Tryz.prog 133 #[.string ⟨#[59]⟩] W λe w'=>e= .returned (.func (.func 151) #[] #[.pointer (some ⟨W.heap.size,0,none⟩)])∧w'=W.alloc (.cells #[.string ⟨#[59]⟩] 9):=λW=>vL [59] W
 have htk9:∀ {r:zo} W q,jF W pb r en→W.heap.size=q→Calls Tryz.prog 130 #[.pointer (some ⟨pb,0,none⟩),.func (.func 151) #[] #[.pointer (some ⟨q,0,none⟩)]] (W.alloc (.cells #[.string ⟨#[59]⟩] 9)) (xF W pb en (zn (qM [59]) en r)):=λW q h e=>e ▸ vO [59] h
 rw[hT1]at htk1;cases hT2:zn jl en r1 with
 |error er =>
  obtain⟨c,q⟩:=er;rw[hT2]at htk2;rw[xh hT1 hT2];clear hT1 hT2 h htk9 hs59;go_enter Tryz.func106,Tryz.ntmps106
  go_wp2_with (first
   |(go_at_call 131;refine zh 0 (.slice _ 6 6) rfl ?_;refine(qb _ _ _ _).mono ?_;rintro e w1 ⟨rfl,rfl⟩)
   |((go_at_call 130)
     refine zh 1 (.func (.func 149) #[] _) rfl ?_;refine(htk1 _).mono ?_;rintro e w2 ⟨hk2,rfl,hp2⟩;clear htk1;have hR2:ze w2 w.heap.size 24 #[.string ⟨#[]⟩,.string ⟨#[]⟩,.int .i64 0,.int .i64 0,.slice none 0 0]:=(ze.new w _ _).kp hk2 (by omega);have hlR2:=hR2.lt;(simp only[qt,xn]))
   |(go_at_call 130;refine zh 1 (.func (.func 113) #[] #[]) rfl ?_;refine(htk2 _ ((hp2.new _).new _)).mono ?_;rintro e w3 ⟨hk3,rfl⟩))
  exact⟨rfl,(zy (zd _ _) hk2).trans (zy (qv _ _ _) hk3),rfl⟩
 |ok ur =>
  obtain⟨u,r2⟩:=ur;rw[hT2]at htk2;rw[vV hT1 hT2];have hrest:qV (⟨K,zv,M⟩:Tk).s=Gv:=UV;clear hT1 hT2 h
  have hro:∀W q,jF W pb r2 en→W.heap.size=q→Ja ((W.alloc (.cells #[.string ⟨#[114,101,97,100,111,110,108,121]⟩] 9)).alloc (.cells #[.slice (some ⟨q,0,none⟩) 1 1] 104)) pb (.func (.func 149) #[] #[.pointer (some ⟨q+1,0,none⟩)]) (jD [zO]):=by
   rintro W q h rfl;have hz:(W.alloc (.cells #[.string ⟨#[114,101,97,100,111,110,108,121]⟩] 9)).heap.size=W.heap.size+1:=by simp
   rw[←hz];have:=h.lt;exact Ka W.heap.size [zO] _ (h.new _) (ze.new _ _ _) (by omega) (by decide)
  have hcm:=λW q h e=>JK ((jF.new (jF.new h _) _)) (hro W q h e)
  cases hC:qz (jD [zO]) r2 with
  |false =>
   rw[hC]at hcm;cases hT9:zn (qM [59]) en r2 with
   |error er =>
    obtain⟨c9,q9⟩:=er;have htk9:=λW q h e=>htk9 (r:=r2) W q h e
    rw[hT9]at htk9;have HR:Hid _:=yD (t:=(⟨K,zv,M⟩,a)) (u:=u) (by rw[hrest];exact uG hC) hT9;clear hT9 hC hrest hro;go_enter Tryz.func106,Tryz.ntmps106
    go_wp2_with (first
     |(go_at_call 131;refine zh 0 (.slice _ 6 6) rfl ?_;refine(qb _ _ _ _).mono ?_;rintro e w1 ⟨rfl,rfl⟩)
     |((go_at_call 130)
       refine zh 1 (.func (.func 149) #[] _) rfl ?_;refine(htk1 _).mono ?_;rintro e w2 ⟨hk2,rfl,hp2⟩;clear htk1;have hR2:ze w2 w.heap.size 24 #[.string ⟨#[]⟩,.string ⟨#[]⟩,.int .i64 0,.int .i64 0,.slice none 0 0]:=(ze.new w _ _).kp hk2 (by omega);have hlR2:=hR2.lt;(simp only[qt,xn]))
     |((go_at_call 130)
       refine zh 1 (.func (.func 113) #[] #[]) rfl ?_;refine(htk2 _ ((hp2.new _).new _)).mono ?_;rintro e w3 ⟨hk3,rfl,hp3⟩;(have hN3:ze w3 (w2.heap.size+1) 24 #[.string ⟨#[101,120,112,111,114,116]⟩,.string ⟨#[]⟩,.int .i64 0,.int .i64 (a:Nat),.slice none 0 0]:=(ze.kp (by(have:=ze.new (w2.alloc (.cells #[.int .i64 (K:Nat),.string ⟨#[101,120,112,111,114,116]⟩,.int .i64 (M:Nat),.int .i64 (a:Nat)] 100)) 24 #[.string ⟨#[101,120,112,111,114,116]⟩,.string ⟨#[]⟩,.int .i64 0,.int .i64 (a:Nat),.slice none 0 0];simpa using this)) hk3 (by omega)));have n0:=hN3.cell 0;have m0:=hN3.free 0;have n1:=hN3.cell 1;have m1:=hN3.free 1;have n2:=hN3.cell 2;have m2:=hN3.free 2;have n3:=hN3.cell 3;have m3:=hN3.free 3;have n4:=hN3.cell 4;have m4:=hN3.free 4;have hlN:=hN3.lt;have hR3:=((hR2.alloc _).alloc _).kp hk3 (by omega);have hK3:Kp pb w w3:=(zy (zd _ _) hk2).trans (zy (qv _ _ _) hk3);(have hpN:pb<w2.heap.size+1:=by omega);(have hwN:w.heap.size≤w2.heap.size+1:=by omega);(have hneR:w.heap.size≠w2.heap.size+1:=by omega);(simp only[qt]))
     |((refine zf 18 rfl ?_)
       (refine zb (some 18) (.string (bs u.1.s)) rfl rfl (by kernel_rfl) ?_))
     |(go_at_call 131;refine zh 0 (.slice _ 1 1) rfl ?_;refine(qb _ _ _ _).mono ?_;rintro e w1 ⟨rfl,rfl⟩)
     |((go_at_call 135)
       refine(hcm _ _ (hp3.set (q:=⟨w2.heap.size+1,1,none⟩) hpN _) (by simp)).mono ?_;rintro e w4 ⟨rfl,hb4⟩;have hB4:=Kp.of (p:=pb) hb4;(have hN4:=((((hN3.putP 1 _).alloc _).alloc _).kp hB4 (by omega)));(have hR4:=((((hR3.other (p:=⟨w2.heap.size+1,1,none⟩) hneR _).alloc _).alloc _).kp hB4 (by omega)));have hK4:=(((hK3.setNew (q:=⟨w2.heap.size+1,1,none⟩) hwN _).alloc _).alloc _).trans hB4;have hp4:=(((hp3.set (q:=⟨w2.heap.size+1,1,none⟩) hpN _).new _).new _).below hb4;have y0:=hN4.cell 0;have z0:=hN4.free 0;have y1:=hN4.cell 1;have z1:=hN4.free 1;have y2:=hN4.cell 2;have z2:=hN4.free 2;have y3:=hN4.cell 3;have z3:=hN4.free 3;have y4:=hN4.cell 4;have z4:=hN4.free 4;have hlN4:=hN4.lt;(have hlR4:=hR4.lt))
     |(go_at_call 133;refine zh 0 (.string ⟨#[59]⟩) rfl ?_;refine(hs59 _).mono ?_;rintro e w1 ⟨rfl,rfl⟩)
     |(go_at_call 130;refine zh 1 (.func (.func 151) #[] _) rfl ?_;refine(htk9 _ _ (hp4) (by simp)).mono ?_;rintro e w9 ⟨hk9,rfl⟩))
    exact⟨rfl,(hK4).trans hk9,by rw[HR.out]⟩
   |ok yr =>
    obtain⟨y9,r9⟩:=yr;have htk9:=λW q h e=>htk9 (r:=r2) W q h e
    rw[hT9]at htk9;have HR:Hid _:=xk (t:=(⟨K,zv,M⟩,a)) (u:=u) (by rw[hrest];exact uG hC) hT9;clear hT9 hC hrest hro;go_enter Tryz.func106,Tryz.ntmps106
    go_wp2_with (first
     |(go_at_call 131;refine zh 0 (.slice _ 6 6) rfl ?_;refine(qb _ _ _ _).mono ?_;rintro e w1 ⟨rfl,rfl⟩)
     |((go_at_call 130)
       refine zh 1 (.func (.func 149) #[] _) rfl ?_;refine(htk1 _).mono ?_;rintro e w2 ⟨hk2,rfl,hp2⟩;clear htk1;have hR2:ze w2 w.heap.size 24 #[.string ⟨#[]⟩,.string ⟨#[]⟩,.int .i64 0,.int .i64 0,.slice none 0 0]:=(ze.new w _ _).kp hk2 (by omega);have hlR2:=hR2.lt;(simp only[qt,xn]))
     |((go_at_call 130)
       refine zh 1 (.func (.func 113) #[] #[]) rfl ?_;refine(htk2 _ ((hp2.new _).new _)).mono ?_;rintro e w3 ⟨hk3,rfl,hp3⟩;(have hN3:ze w3 (w2.heap.size+1) 24 #[.string ⟨#[101,120,112,111,114,116]⟩,.string ⟨#[]⟩,.int .i64 0,.int .i64 (a:Nat),.slice none 0 0]:=(ze.kp (by(have:=ze.new (w2.alloc (.cells #[.int .i64 (K:Nat),.string ⟨#[101,120,112,111,114,116]⟩,.int .i64 (M:Nat),.int .i64 (a:Nat)] 100)) 24 #[.string ⟨#[101,120,112,111,114,116]⟩,.string ⟨#[]⟩,.int .i64 0,.int .i64 (a:Nat),.slice none 0 0];simpa using this)) hk3 (by omega)));have n0:=hN3.cell 0;have m0:=hN3.free 0;have n1:=hN3.cell 1;have m1:=hN3.free 1;have n2:=hN3.cell 2;have m2:=hN3.free 2;have n3:=hN3.cell 3;have m3:=hN3.free 3;have n4:=hN3.cell 4;have m4:=hN3.free 4;have hlN:=hN3.lt;have hR3:=((hR2.alloc _).alloc _).kp hk3 (by omega);have hK3:Kp pb w w3:=(zy (zd _ _) hk2).trans (zy (qv _ _ _) hk3);(have hpN:pb<w2.heap.size+1:=by omega);(have hwN:w.heap.size≤w2.heap.size+1:=by omega);(have hneR:w.heap.size≠w2.heap.size+1:=by omega);(simp only[qt]))
     |((refine zf 18 rfl ?_)
       (refine zb (some 18) (.string (bs u.1.s)) rfl rfl (by kernel_rfl) ?_))
     |(go_at_call 131;refine zh 0 (.slice _ 1 1) rfl ?_;refine(qb _ _ _ _).mono ?_;rintro e w1 ⟨rfl,rfl⟩)
     |((go_at_call 135)
       refine(hcm _ _ (hp3.set (q:=⟨w2.heap.size+1,1,none⟩) hpN _) (by simp)).mono ?_;rintro e w4 ⟨rfl,hb4⟩;have hB4:=Kp.of (p:=pb) hb4;(have hN4:=((((hN3.putP 1 _).alloc _).alloc _).kp hB4 (by omega)));(have hR4:=((((hR3.other (p:=⟨w2.heap.size+1,1,none⟩) hneR _).alloc _).alloc _).kp hB4 (by omega)));have hK4:=(((hK3.setNew (q:=⟨w2.heap.size+1,1,none⟩) hwN _).alloc _).alloc _).trans hB4;have hp4:=(((hp3.set (q:=⟨w2.heap.size+1,1,none⟩) hpN _).new _).new _).below hb4;have y0:=hN4.cell 0;have z0:=hN4.free 0;have y1:=hN4.cell 1;have z1:=hN4.free 1;have y2:=hN4.cell 2;have z2:=hN4.free 2;have y3:=hN4.cell 3;have z3:=hN4.free 3;have y4:=hN4.cell 4;have z4:=hN4.free 4;have hlN4:=hN4.lt;(have hlR4:=hR4.lt))
     |(go_at_call 133;refine zh 0 (.string ⟨#[59]⟩) rfl ?_;refine(hs59 _).mono ?_;rintro e w1 ⟨rfl,rfl⟩)
     |((go_at_call 130)
       refine zh 1 (.func (.func 151) #[] _) rfl ?_;refine(htk9 _ _ (hp4) (by simp)).mono ?_;rintro e w9 ⟨hk9,rfl,hp9⟩;have hN9:=(hN4).kp hk9 (by omega);have hR9:=(hR4).kp hk9 (by omega);have hK9:Kp pb w w9:=(hK4).trans hk9;have x0:=hN9.cell 0;have r0:=hR9.cell 0;have f0:=hR9.free 0;have x1:=hN9.cell 1;have r1:=hR9.cell 1;have f1:=hR9.free 1;have x2:=hN9.cell 2;have r2:=hR9.cell 2;have f2:=hR9.free 2;have x3:=hN9.cell 3;have r3:=hR9.cell 3;have f3:=hR9.free 3;have x4:=hN9.cell 4;have r4:=hR9.cell 4;have f4:=hR9.free 4;have hlN9:=hN9.lt;(have hlR9:=hR9.lt)))
    refine zY rfl rfl (hR9.set5 _ _ _ _ _) rfl ⟨hK9.set5 (Nat.le_refl _) _ _ _ _ _,?_⟩;rw[HR.out];exact⟨none,0,rfl,jB.nil _ _,hp9.set5 hlt _ _ _ _ _⟩
  |true =>
   rw[hC]at hcm;obtain⟨x,r3,hT3⟩:=Ub (en:=en) hC;have htk3:=λW v h ha=>yu (w:=W) (pb:=pb) (en:=en) (ts:=r2) h (v:=v) (p:=jD [zO]) ha
   rw[hT3]at htk3;cases hT9:zn (qM [59]) en r3 with
   |error er =>
    obtain⟨c9,q9⟩:=er;have htk9:=λW q h e=>htk9 (r:=r3) W q h e
    rw[hT9]at htk9;have HR:Hid _:=yD (t:=(⟨K,zv,M⟩,a)) (u:=u) (by rw[hrest];exact uA hC hT3) hT9;clear hT9 hC hT3 hrest;go_enter Tryz.func106,Tryz.ntmps106
    go_wp2_with (first
     |(go_at_call 131;refine zh 0 (.slice _ 6 6) rfl ?_;refine(qb _ _ _ _).mono ?_;rintro e w1 ⟨rfl,rfl⟩)
     |((go_at_call 130)
       refine zh 1 (.func (.func 149) #[] _) rfl ?_;refine(htk1 _).mono ?_;rintro e w2 ⟨hk2,rfl,hp2⟩;clear htk1;have hR2:ze w2 w.heap.size 24 #[.string ⟨#[]⟩,.string ⟨#[]⟩,.int .i64 0,.int .i64 0,.slice none 0 0]:=(ze.new w _ _).kp hk2 (by omega);have hlR2:=hR2.lt;(simp only[qt,xn]))
     |((go_at_call 130)
       refine zh 1 (.func (.func 113) #[] #[]) rfl ?_;refine(htk2 _ ((hp2.new _).new _)).mono ?_;rintro e w3 ⟨hk3,rfl,hp3⟩;(have hN3:ze w3 (w2.heap.size+1) 24 #[.string ⟨#[101,120,112,111,114,116]⟩,.string ⟨#[]⟩,.int .i64 0,.int .i64 (a:Nat),.slice none 0 0]:=(ze.kp (by(have:=ze.new (w2.alloc (.cells #[.int .i64 (K:Nat),.string ⟨#[101,120,112,111,114,116]⟩,.int .i64 (M:Nat),.int .i64 (a:Nat)] 100)) 24 #[.string ⟨#[101,120,112,111,114,116]⟩,.string ⟨#[]⟩,.int .i64 0,.int .i64 (a:Nat),.slice none 0 0];simpa using this)) hk3 (by omega)));have n0:=hN3.cell 0;have m0:=hN3.free 0;have n1:=hN3.cell 1;have m1:=hN3.free 1;have n2:=hN3.cell 2;have m2:=hN3.free 2;have n3:=hN3.cell 3;have m3:=hN3.free 3;have n4:=hN3.cell 4;have m4:=hN3.free 4;have hlN:=hN3.lt;have hR3:=((hR2.alloc _).alloc _).kp hk3 (by omega);have hK3:Kp pb w w3:=(zy (zd _ _) hk2).trans (zy (qv _ _ _) hk3);(have hpN:pb<w2.heap.size+1:=by omega);(have hwN:w.heap.size≤w2.heap.size+1:=by omega);(have hneR:w.heap.size≠w2.heap.size+1:=by omega);(simp only[qt]))
     |((refine zf 18 rfl ?_)
       (refine zb (some 18) (.string (bs u.1.s)) rfl rfl (by kernel_rfl) ?_))
     |(go_at_call 131;refine zh 0 (.slice _ 1 1) rfl ?_;refine(qb _ _ _ _).mono ?_;rintro e w1 ⟨rfl,rfl⟩)
     |((go_at_call 135)
       refine(hcm _ _ (hp3.set (q:=⟨w2.heap.size+1,1,none⟩) hpN _) (by simp)).mono ?_;rintro e w4 ⟨rfl,hb4⟩;have hB4:=Kp.of (p:=pb) hb4;(have hN4:=((((hN3.putP 1 _).alloc _).alloc _).kp hB4 (by omega)));(have hR4:=((((hR3.other (p:=⟨w2.heap.size+1,1,none⟩) hneR _).alloc _).alloc _).kp hB4 (by omega)));have hK4:=(((hK3.setNew (q:=⟨w2.heap.size+1,1,none⟩) hwN _).alloc _).alloc _).trans hB4;have hp4:=(((hp3.set (q:=⟨w2.heap.size+1,1,none⟩) hpN _).new _).new _).below hb4;have y0:=hN4.cell 0;have z0:=hN4.free 0;have y1:=hN4.cell 1;have z1:=hN4.free 1;have y2:=hN4.cell 2;have z2:=hN4.free 2;have y3:=hN4.cell 3;have z3:=hN4.free 3;have y4:=hN4.cell 4;have z4:=hN4.free 4;have hlN4:=hN4.lt;(have hlR4:=hR4.lt))
     |((go_at_call 130)
       refine zh 1 (.func (.func 149) #[] _) rfl ?_;refine(htk3 _ _ hp4 ((hro _ _ (hp3.set (q:=⟨w2.heap.size+1,1,none⟩) hpN _) (by simp)).kp hB4)).mono ?_;rintro e w5 ⟨hk5,rfl,hp5⟩;clear htk3;have hN5:=hN4.kp hk5 (by omega);have hR5:=hR4.kp hk5 (by omega);have hK5:=hK4.trans hk5;have v0:=hN5.cell 0;have u0:=hN5.free 0;have v1:=hN5.cell 1;have u1:=hN5.free 1;have v2:=hN5.cell 2;have u2:=hN5.free 2;have v3:=hN5.cell 3;have u3:=hN5.free 3;have v4:=hN5.cell 4;have u4:=hN5.free 4;have hlN5:=hN5.lt;(have hlR5:=hR5.lt))
     |(go_at_call 133;refine zh 0 (.string ⟨#[59]⟩) rfl ?_;refine(hs59 _).mono ?_;rintro e w1 ⟨rfl,rfl⟩)
     |(go_at_call 130;refine zh 1 (.func (.func 151) #[] _) rfl ?_;refine(htk9 _ _ (hp5.set (q:=⟨w2.heap.size+1,2,none⟩) hpN _) (by simp)).mono ?_;rintro e w9 ⟨hk9,rfl⟩))
    exact⟨rfl,(hK5.setNew (q:=⟨w2.heap.size+1,2,none⟩) hwN _).trans hk9,by rw[HR.out]⟩
   |ok yr =>
    obtain⟨y9,r9⟩:=yr;have htk9:=λW q h e=>htk9 (r:=r3) W q h e
    rw[hT9]at htk9;have HR:Hid _:=xk (t:=(⟨K,zv,M⟩,a)) (u:=u) (by rw[hrest];exact uA hC hT3) hT9;clear hT9 hC hT3 hrest;go_enter Tryz.func106,Tryz.ntmps106
    go_wp2_with (first
     |(go_at_call 131;refine zh 0 (.slice _ 6 6) rfl ?_;refine(qb _ _ _ _).mono ?_;rintro e w1 ⟨rfl,rfl⟩)
     |((go_at_call 130)
       refine zh 1 (.func (.func 149) #[] _) rfl ?_;refine(htk1 _).mono ?_;rintro e w2 ⟨hk2,rfl,hp2⟩;clear htk1;have hR2:ze w2 w.heap.size 24 #[.string ⟨#[]⟩,.string ⟨#[]⟩,.int .i64 0,.int .i64 0,.slice none 0 0]:=(ze.new w _ _).kp hk2 (by omega);have hlR2:=hR2.lt;(simp only[qt,xn]))
     |((go_at_call 130)
       refine zh 1 (.func (.func 113) #[] #[]) rfl ?_;refine(htk2 _ ((hp2.new _).new _)).mono ?_;rintro e w3 ⟨hk3,rfl,hp3⟩;(have hN3:ze w3 (w2.heap.size+1) 24 #[.string ⟨#[101,120,112,111,114,116]⟩,.string ⟨#[]⟩,.int .i64 0,.int .i64 (a:Nat),.slice none 0 0]:=(ze.kp (by(have:=ze.new (w2.alloc (.cells #[.int .i64 (K:Nat),.string ⟨#[101,120,112,111,114,116]⟩,.int .i64 (M:Nat),.int .i64 (a:Nat)] 100)) 24 #[.string ⟨#[101,120,112,111,114,116]⟩,.string ⟨#[]⟩,.int .i64 0,.int .i64 (a:Nat),.slice none 0 0];simpa using this)) hk3 (by omega)));have n0:=hN3.cell 0;have m0:=hN3.free 0;have n1:=hN3.cell 1;have m1:=hN3.free 1;have n2:=hN3.cell 2;have m2:=hN3.free 2;have n3:=hN3.cell 3;have m3:=hN3.free 3;have n4:=hN3.cell 4;have m4:=hN3.free 4;have hlN:=hN3.lt;have hR3:=((hR2.alloc _).alloc _).kp hk3 (by omega);have hK3:Kp pb w w3:=(zy (zd _ _) hk2).trans (zy (qv _ _ _) hk3);(have hpN:pb<w2.heap.size+1:=by omega);(have hwN:w.heap.size≤w2.heap.size+1:=by omega);(have hneR:w.heap.size≠w2.heap.size+1:=by omega);(simp only[qt]))
     |((refine zf 18 rfl ?_)
       (refine zb (some 18) (.string (bs u.1.s)) rfl rfl (by kernel_rfl) ?_))
     |(go_at_call 131;refine zh 0 (.slice _ 1 1) rfl ?_;refine(qb _ _ _ _).mono ?_;rintro e w1 ⟨rfl,rfl⟩)
     |((go_at_call 135)
       refine(hcm _ _ (hp3.set (q:=⟨w2.heap.size+1,1,none⟩) hpN _) (by simp)).mono ?_;rintro e w4 ⟨rfl,hb4⟩;have hB4:=Kp.of (p:=pb) hb4;(have hN4:=((((hN3.putP 1 _).alloc _).alloc _).kp hB4 (by omega)));(have hR4:=((((hR3.other (p:=⟨w2.heap.size+1,1,none⟩) hneR _).alloc _).alloc _).kp hB4 (by omega)));have hK4:=(((hK3.setNew (q:=⟨w2.heap.size+1,1,none⟩) hwN _).alloc _).alloc _).trans hB4;have hp4:=(((hp3.set (q:=⟨w2.heap.size+1,1,none⟩) hpN _).new _).new _).below hb4;have y0:=hN4.cell 0;have z0:=hN4.free 0;have y1:=hN4.cell 1;have z1:=hN4.free 1;have y2:=hN4.cell 2;have z2:=hN4.free 2;have y3:=hN4.cell 3;have z3:=hN4.free 3;have y4:=hN4.cell 4;have z4:=hN4.free 4;have hlN4:=hN4.lt;(have hlR4:=hR4.lt))
     |((go_at_call 130)
       refine zh 1 (.func (.func 149) #[] _) rfl ?_;refine(htk3 _ _ hp4 ((hro _ _ (hp3.set (q:=⟨w2.heap.size+1,1,none⟩) hpN _) (by simp)).kp hB4)).mono ?_;rintro e w5 ⟨hk5,rfl,hp5⟩;clear htk3;have hN5:=hN4.kp hk5 (by omega);have hR5:=hR4.kp hk5 (by omega);have hK5:=hK4.trans hk5;have v0:=hN5.cell 0;have u0:=hN5.free 0;have v1:=hN5.cell 1;have u1:=hN5.free 1;have v2:=hN5.cell 2;have u2:=hN5.free 2;have v3:=hN5.cell 3;have u3:=hN5.free 3;have v4:=hN5.cell 4;have u4:=hN5.free 4;have hlN5:=hN5.lt;(have hlR5:=hR5.lt))
     |(go_at_call 133;refine zh 0 (.string ⟨#[59]⟩) rfl ?_;refine(hs59 _).mono ?_;rintro e w1 ⟨rfl,rfl⟩)
     |((go_at_call 130)
       refine zh 1 (.func (.func 151) #[] _) rfl ?_;refine(htk9 _ _ (hp5.set (q:=⟨w2.heap.size+1,2,none⟩) hpN _) (by simp)).mono ?_;rintro e w9 ⟨hk9,rfl,hp9⟩;have hN9:=(hN5.putP 2 _).kp hk9 (by omega);have hR9:=(hR5.other (p:=⟨w2.heap.size+1,2,none⟩) hneR _).kp hk9 (by omega);have hK9:Kp pb w w9:=(hK5.setNew (q:=⟨w2.heap.size+1,2,none⟩) hwN _).trans hk9;have x0:=hN9.cell 0;have r0:=hR9.cell 0;have f0:=hR9.free 0;have x1:=hN9.cell 1;have r1:=hR9.cell 1;have f1:=hR9.free 1;have x2:=hN9.cell 2;have r2:=hR9.cell 2;have f2:=hR9.free 2;have x3:=hN9.cell 3;have r3:=hR9.cell 3;have f3:=hR9.free 3;have x4:=hN9.cell 4;have r4:=hR9.cell 4;have f4:=hR9.free 4;have hlN9:=hN9.lt;(have hlR9:=hR9.lt)))
    refine zY rfl rfl (hR9.set5 _ _ _ _ _) rfl ⟨hK9.set5 (Nat.le_refl _) _ _ _ _ _,?_⟩;rw[HR.out];exact⟨none,0,rfl,jB.nil _ _,hp9.set5 hlt _ _ _ _ _⟩
end
end Go.Proofs.YtebcfkigbbolaaaGreatDoor
