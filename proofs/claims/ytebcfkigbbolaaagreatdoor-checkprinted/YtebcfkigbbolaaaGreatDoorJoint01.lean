import Derived.Test.YtebcfkigbbolaaaGreatDoorJoint00
import Derived.Deep.LoopGhost
import Derived.Shelf.Abstract
import Derived.BigQuiet
import Derived.Deep.QuietTactic
import Derived.Lib.Strings
import Derived.Laws.IdiomStrings
namespace Go.Proofs.YtebcfkigbbolaaaGreatDoor
set_option linter.unusedVariables false
set_option maxRecDepth 100000
set_option maxHeartbeats 40000000
section
open Go.RowKit Go.Shelf
theorem vT(a b c:Int)(w:World)(h:b≤a∧a≤c):Calls Tryz.prog 179 #[.int .i64 a,.int .i64 b,.int .i64 c] w λe w'=>e= .returned (.bool true)∧w'=w:=by
 obtain⟨h1,h2⟩:=h;go_enter Tryz.func179,Tryz.ntmps179
 go_wp2
 go_ret
 exact⟨rfl,rfl⟩
theorem Jj(a b c:Int)(w:World)(h:¬(b≤a∧a≤c)):Calls Tryz.prog 179 #[.int .i64 a,.int .i64 b,.int .i64 c] w λe w'=>e= .returned (.bool false)∧w'=w:=by
 by_cases h1:b≤a
 ·have h2:¬a≤c:=λh2=>h ⟨h1,h2⟩
  clear h;go_enter Tryz.func179,Tryz.ntmps179
  go_wp2
  go_ret
  exact⟨rfl,rfl⟩
 ·clear h
  go_enter Tryz.func179,Tryz.ntmps179
  go_wp2
  go_ret
  exact⟨rfl,rfl⟩
theorem JV(x s:Nat)(w:World)(hx:x≤100000)(h1:1≤s)(h2:s≤100000):Calls Tryz.prog 180 #[.int .i64 (x:Nat),.int .i64 (s:Nat)] w λe w'=>e= .returned (.int .i64 (((x+s-1) / s:Nat):Int))∧w'=w:=by
 have HE:Hid (((x:Int)+(s:Int)-1) / (s:Int)=(((x+s-1) / s:Nat):Int)):=(by
  rw[Int.natCast_ediv];congr 1;omega:((x:Int)+(s:Int)-1) / (s:Int)=(((x+s-1) / s:Nat):Int))
 generalize (((x+s-1) / s:Nat):Int)=q at HE ⊢;generalize hX:(x:Int)=X at HE ⊢;generalize hS:(s:Int)=S at HE ⊢;have a1:0≤X:=by omega
 have a2:X≤100000:=by omega
 have a3:1≤S:=by omega
 have a4:S≤100000:=by omega
 clear hX hS hx h1 h2;have a5:¬S=0:=by omega
 have a6:¬S= -1:=by omega
 go_enter Tryz.func180,Tryz.ntmps180
 go_wp2
 go_ret
 rw[HE.out];exact⟨rfl,rfl⟩
theorem zaq(d:Nat)(w:World)(h:d≤8192):Calls Tryz.prog 195 #[.int .i64 (d:Nat)] w λe w'=>e= .returned (.int .i64 (tg d:Nat))∧w'=w:=by
 have hg:=JV d 4 w (by omega) (by omega) (by omega);rw[show(d+4-1) / 4=tg d by unfold tg;omega]at hg;generalize ((tg d:Nat):Int)=q at hg ⊢;generalize ((d:Nat):Int)=D at hg ⊢;clear h;go_enter Tryz.func195,Tryz.ntmps195
 go_wp2_with (first
  |((go_at_call 180)
    refine hg.mono ?_;(rintro e w1 ⟨rfl,rfl⟩)))
 go_ret
 exact⟨rfl,rfl⟩
theorem dn{w:World}{a:Option Addr}{n:Nat}{f:Nat→Nat}(h:gG w a n f)(k:Nat)(hk:k<n):∃b off,a=some ⟨b,off,none⟩∧b<w.heap.size∧w.cell? ⟨b,off+k,none⟩=some (.int .i64 (f k:Nat)):=by
 rcases h with h|⟨b,off,rfl,hb,hc⟩
 ·omega
 ·exact⟨b,off,rfl,hb,hc k hk⟩
theorem Dy(n:Nat)(w:World)(hn:n≤8192):Calls Tryz.prog 196 #[.int .i64 (n:Nat)] w λe w'=>e= .returned (.int .i64 (hs n:Nat))∧Below w.heap.size w w':=by
 have hL:=GQ (n:Int) w ⟨by omega,by omega⟩;rw[Int.toNat_natCast]at hL;have HP:Hid (∀k,k≤ZJ (n:Int)→off n k≤2058):=λk hk=>Nat.le_trans (fz n k hk) (zaa n)
 have HE:Hid (off n (ZJ (n:Int))=hs n):=rfl;have h11:=uP (n:Int);generalize ZJ (n:Int)=m at hL HP HE h11;generalize (n:Int)=N at hL ⊢;clear hn;go_enter Tryz.func196,Tryz.ntmps196
 go_wp2_with (first
  |((go_at_call 198)
    refine hL.mono ?_;(rintro e w1 ⟨a,c,rfl,hc1,hc2,hints,hb⟩)))
 go_loop [3,9] (λs i=>∃k:Nat,k≤m∧i= .int .i64 k∧s= .int .i64 (off n k:Nat)) (λ_ i=>m-(intOf i).toNat)
 case atStart=>exact⟨0,Nat.zero_le _,rfl,rfl⟩
 case round =>
  obtain⟨k,hk,rfl,rfl⟩:=hrel;have hp:=HP.out k hk;by_cases hlt:k<m
  ·have hp2:=HP.out (k+1) hlt
   have HS:Hid ((off n k:Int)+(lv n (k+1):Int)=((off n (k+1):Nat):Int)):=(by simp only[off];omega:(off n k:Int)+(lv n (k+1):Int)=((off n (k+1):Nat):Int))
   obtain⟨b,o,rfl,hbl,hcell⟩:=dn hints k hlt;have hv:lv n (k+1)≤2058:=by simp only[off]at hp2;omega
   clear hL hp2;generalize lv n (k+1)=v at *;generalize off n k=s at *
   go_wp2
   go_round
   case rel=>exact⟨k+1,hlt,by go_num,by rw[HS.out]⟩
   case measure=>simp[intOf];omega
  ·obtain rfl:k=m:=by omega
   clear hL
   go_wp2
   go_ret
   rw[HE.out];exact⟨rfl,hb⟩
theorem FR(g:Nat)(cb:Array Value)(n:Nat)(p:Nat→Bool)(w:World)(eg:∀args w,(callFunc g args).run Tryz.prog w= .ok (.enter g args) w)(hn:n≤10000)
 (hf:∀(i:Nat) (W:World),i<n→Below w.heap.size w W→Calls Tryz.prog g (#[.int .i64 i]++cb) W λe W'=>e= .returned (.bool (p i))∧Below w.heap.size w W')
 (hmono:∀a b,a≤b→b<n→p a=true→p b=true):
 Calls Tryz.prog 191 #[.int .i64 n,.func (.func g) #[] cb] w λe w'=>∃r:Nat,e= .returned (.int .i64 (r:Nat))∧r≤n∧(∀t,t<r→p t=false)∧(∀t,r≤t→t<n→p t=true)∧Below w.heap.size w w':=by
 have HF:Hid (∀(i:Nat) (W:World),i<n→Below w.heap.size w W→Calls Tryz.prog g (#[.int .i64 i]++cb) W λe W'=>e= .returned (.bool (p i))∧Below w.heap.size w W'):=hf;have M:Hid (∀a b,a≤b→b<n→p a=true→p b=true):=hmono;clear hf hmono;go_enter Tryz.func191,Tryz.ntmps191
 go_wp2
 go_loopg [5,6] n (λkx s5 s6 wr=>∃(lo hi:Nat),s5= .int .i64 lo∧s6= .int .i64 hi∧lo≤hi∧hi≤n∧hi-lo≤kx∧Below w.heap.size w wr ∧
  Hid ((∀t,t<lo→p t=false)∧(∀t,hi≤t→t<n→p t=true)))
 case atStart=>exact⟨0,n,rfl,rfl,Nat.zero_le _,Nat.le_refl _,by omega,Below.refl _ _,(⟨λt ht=>absurd ht (Nat.not_lt_zero _),λt h1 h2=>by omega⟩:(∀t,t<0→p t=false)∧(∀t,n≤t→t<n→p t=true))⟩
 case round =>
  obtain⟨lo,hi,rfl,rfl,hlh,hin,hg,hb,I⟩:=hrel;by_cases hlt:lo<hi
  ·have hc:=HF.out ((lo+hi) / 2) _ (by omega) hb
   rw[show(((lo+hi) / 2:Nat):Int)=((lo:Int)+(hi:Int)) / 2 by omega]at hc;cases hp:p ((lo+hi) / 2)<;>rw[hp]at hc
   ·have HP:Hid (p ((lo+hi) / 2)=false):=hp
    clear hp
    go_wp2_with (go_at_fn g;refine hc.mono ?_;rintro e w' ⟨rfl,hb2⟩)
    go_roundg (hi-((lo+hi) / 2+1))
    case measure=>omega
    case rel =>
     have I2:Hid ((∀t,t<(lo+hi) / 2+1→p t=false)∧(∀t,hi≤t→t<n→p t=true)):=⟨λt ht=>(by
      cases h:p t with
      |false=>rfl
      |true=>have:=M.out t ((lo+hi) / 2) (by omega) (by omega) h;rw[HP.out]at this;cases this),I.out.2⟩
     exact⟨(lo+hi) / 2+1,hi,by rw[show((lo:Int)+(hi:Int)) / 2+1=(((lo+hi) / 2+1:Nat):Int) by omega],rfl,by omega,hin,Nat.le_refl _,hb2,I2⟩
   ·have HP:Hid (p ((lo+hi) / 2)=true):=hp
    clear hp
    go_wp2_with (go_at_fn g;refine hc.mono ?_;rintro e w' ⟨rfl,hb2⟩)
    go_roundg ((lo+hi) / 2-lo)
    case measure=>omega
    case rel =>
     have I2:Hid ((∀t,t<lo→p t=false)∧(∀t,(lo+hi) / 2≤t→t<n→p t=true)):=⟨I.out.1,λt ht htn=>M.out ((lo+hi) / 2) t ht htn HP.out⟩
     exact⟨lo,(lo+hi) / 2,rfl,by rw[show((lo:Int)+(hi:Int)) / 2=(((lo+hi) / 2:Nat):Int) by omega],by omega,by omega,Nat.le_refl _,hb2,I2⟩
  ·obtain rfl:hi=lo:=by omega
   go_wp2
   go_ret
   exact⟨hi,rfl,hin,I.out.1,I.out.2,hb⟩
theorem fH(g bx:Nat)(cb:Array Value)(i:Nat)(b:Bool)(W:World)(B:Nat)(w:World)(hi:i≤10000)(eg:∀args w,(callFunc g args).run Tryz.prog w= .ok (.enter g args) w)
 (hx:W.cell? ⟨bx,0,none⟩=some (.func (.func g) #[] cb))
 (hf:Calls Tryz.prog g (#[.int .i64 ((i+1:Nat):Int)]++cb) W λe W'=>e= .returned (.bool b)∧Below B w W'):
 Calls Tryz.prog 192 #[.int .i64 i,.pointer (some ⟨bx,0,none⟩)] W λe W'=>e= .returned (.bool !b)∧Below B w W':=by
 rw[show((i+1:Nat):Int)=(i:Int)+1 by omega]at hf;go_enter Tryz.func192,Tryz.ntmps192
 go_wp2_with (go_at_fn g;refine hf.mono ?_;rintro e w' ⟨rfl,hb2⟩)
 go_ret
 exact⟨rfl,hb2⟩
theorem JP(g:Nat)(cb:Array Value)(L:Nat)(F:Nat→Bool)(w:World)(eg:∀args w,(callFunc g args).run Tryz.prog w= .ok (.enter g args) w)(hn:L≤10000)
 (hf:∀(d:Nat) (W:World),d≤L→Below w.heap.size w W→Calls Tryz.prog g (#[.int .i64 (d:Nat)]++cb) W λe W'=>e= .returned (.bool (F d))∧Below W.heap.size W W')
 (hanti:∀a b,a≤b→b≤L→F b=true→F a=true):
 Calls Tryz.prog 181 #[.int .i64 L,.func (.func g) #[] cb] w λe w'=>∃r:Nat,e= .returned (.int .i64 (r:Nat))∧yp L F r∧Below w.heap.size w w':=by
 obtain⟨W0,hW0⟩:∃W0,W0=w.alloc (.cells #[.func (.func g) #[] cb] 158):=⟨_,rfl⟩
 have hs0:W0.heap.size=w.heap.size+1:=by rw[hW0];simp
 have hx0:ze W0 w.heap.size 158 #[.func (.func g) #[] cb]:=by rw[hW0];exact ze.new _ _ _
 have hB0:Below w.heap.size w W0:=by rw[hW0];exact(Below.refl _ w).alloc (Nat.le_refl _) _
 have hS:=FR 192 #[.pointer (some ⟨w.heap.size,0,none⟩)] L (λi=> !F (i+1)) W0 (enters_of Tryz.func192 (by kernel_rfl) rfl) hn
  (λi W hi hb=>by
    refine(fH g w.heap.size cb i (F (i+1)) W W0.heap.size W0 (by omega) eg (by rw[(hx0.below hb (by omega)).cell 0];rfl) ?_);refine(hf (i+1) W (by omega) (hB0.trans (hb.mono (by omega)))).mono ?_;rintro e W' ⟨rfl,h⟩
    exact⟨rfl,hb.trans (h.mono hb.size)⟩)
  (λa b hab hb h=>by
    cases hq:F (b+1)with
    |false=>rfl
    |true=>rw[hanti (a+1) (b+1) (by omega) (by omega) hq]at h;cases h)
 have HS:Hid (Calls Tryz.prog 191 #[.int .i64 L,.func (.func 192) #[] #[.pointer (some ⟨w.heap.size,0,none⟩)]] W0 λe w'=>∃r:Nat,e= .returned (.int .i64 (r:Nat))∧r≤L∧(∀t,t<r→(!F (t+1))=false)∧(∀t,r≤t→t<L→(!F (t+1))=true)∧Below W0.heap.size W0 w'):=hS;clear hS hf hanti;go_enter Tryz.func181,Tryz.ntmps181
 go_wp2_with (first
  |((go_at_call 191)
    rw[←hW0];refine HS.out.mono ?_;(rintro e w1 ⟨r,rfl,h1,h2,h3,h4⟩)))
 go_ret
 exact⟨r,rfl,⟨h1,λt ht=>by have:=h2 t ht;simpa using this,λh=>by have:=h3 r (Nat.le_refl _) h;simpa using this⟩,hB0.trans (h4.mono (by omega))⟩
end
section
open Go.ChangeShapes Go.WideShapes Go.ChangeAt Go.RowKit Go.Shelf
theorem kT{o:Oper}{a:Act}(x:Operand)(ho:o.op= .load 117 x)(p:Addr)(hx:a.eval x= .pointer (some p))(v:Value)(w:World)(h:w.cell? p=some v):(execOp a.eval o).run Tryz.prog w= .ok (.value v) w:=by
 unfold execOp;simp only[ho,hx];simp[go_sem,h]
theorem fV{o:Oper}{a:Act}(x y:Operand)(ho:o.op= .binOp .leq 3 x y 3)(p q:Int)(hx:a.eval x= .int .i64 p)(hy:a.eval y= .int .i64 q)(c:Bool)(hc:decide (p≤q)=c)(w:World):
 (execOp a.eval o).run Tryz.prog w= .ok (.value (.bool c)) w:=by
 unfold execOp;simp only[ho,hx,hy];subst hc;go_simp
theorem gZ(g bf bn:Nat)(rest:Nat→Nat)(d n:Nat)(W:World)(hn:n≤8192)(hd:d≤8192)(hr:rest d≤100000)
 (eg:∀args w,(callFunc g args).run Tryz.prog w= .ok (.enter g args) w)
 (hx:ze W bf 117 #[.func (.func g) #[] #[]]) (hy:ze W bn 3 #[.int .i64 (n:Nat)])
 (hf:∀W:World,Calls Tryz.prog g #[.int .i64 (d:Nat)] W λe W'=>e= .returned (.int .i64 (rest d:Nat))∧Below W.heap.size W W'):
 Calls Tryz.prog 197 #[.int .i64 (d:Nat),.pointer (some ⟨bf,0,none⟩),.pointer (some ⟨bn,0,none⟩)] W λe W'=>e= .returned (.bool (VE rest n d))∧Below W.heap.size W W':=by
 have HF:decide (((d+rest d:Nat):Int)≤(n:Int))=VE rest n d:=by unfold VE;exact decide_eq_decide.2 (by omega)
 generalize rest d=q at hf hr HF;generalize VE rest n d=bo at HF ⊢;have HH:Hid (decide (((d+q:Nat):Int)≤(n:Int))=bo):=HF;clear HF;go_enter Tryz.func197,Tryz.ntmps197
 go_wp2
 refine wp_region_held_drew (S:=λw'=>ze w' bf 117 #[.func (.func g) #[] #[]]∧ze w' bn 3 #[.int .i64 (n:Nat)]∧Below W.heap.size W w') (by kernel_rfl) ⟨hx,hy,(Below.refl _ W).drew⟩ (λhHeld=>?_);refine zS 0 (some 5) (.int .i64 (d:Nat)) hHeld ?_;simp only[Act.put,zk,zj,zl];refine qq 1 (some 6) (.func (.func g) #[] #[]) rfl rfl (λwz hz=>kT _ rfl ⟨bf,0,none⟩ rfl _ wz (by rw[hz.1.cell 0];rfl)) hHeld ?_;simp only[Act.put,zk,zj,zl];refine zS 2 (some 7) (.int .i64 (d:Nat)) hHeld ?_;simp only[Act.put,zk,zj,zl];refine qq 5 (some 10) (.int .i64 (n:Nat)) rfl rfl (λwz hz=>Ze _ rfl ⟨bn,0,none⟩ rfl _ wz (by rw[hz.2.1.cell 0];rfl)) hHeld ?_;simp only[Act.put,zk,zj,zl];refine uh 3 (some 8) g #[.int .i64 (d:Nat)] (by kernel_rfl) rfl rfl (by rfl) (by unfold execOp;simp[Act.eval,go_sem,eg]) (hf _) ?_;rintro e w1 ⟨rfl,hb1⟩;have hb1':Below W.heap.size W w1:=hHeld.2.2.trans hb1
 have hH1:ze w1 bf 117 #[.func (.func g) #[] #[]]∧ze w1 bn 3 #[.int .i64 (n:Nat)]∧Below W.heap.size W w1:=⟨hx.below hb1' hx.lt,hy.below hb1' hy.lt,hb1'⟩
 refine⟨_,rfl,hH1,?_⟩;simp only[Act.put,zk,zj,zl];refine qq 4 (some 9) (.int .i64 ((d+q:Nat):Int)) rfl rfl (λwz hz=>J0 _ _ rfl d q rfl rfl (by omega) (by omega) wz) hH1 ?_;simp only[Act.put,zk,zj,zl];refine qq 6 (some 11) (.bool bo) rfl rfl (λwz hz=>fV _ _ rfl _ _ rfl rfl bo HH.out wz) hH1 ?_;simp only[Act.put,zk,zj,zl];refine qq 7 (some 4) (.bool bo) rfl rfl (λ_ _=>rfl) hH1 ?_;simp only[Act.put,zk,zj,zl];refine wpAnyH_done (by kernel_rfl) ?_ _
 go_wp2
 go_ret
 exact⟨rfl,hb1'⟩
theorem uI(g:Nat)(rest:Nat→Nat)(n L:Nat)(w:World)(hn:n≤8192)(hL:L≤8192)(hr:∀d,d≤L→rest d≤100000)(hm:∀a b,a≤b→b≤L→rest a≤rest b)
 (eg:∀args w,(callFunc g args).run Tryz.prog w= .ok (.enter g args) w)
 (hf:∀(d:Nat) (W:World),d≤L→Calls Tryz.prog g #[.int .i64 (d:Nat)] W λe W'=>e= .returned (.int .i64 (rest d:Nat))∧Below W.heap.size W W'):
 Calls Tryz.prog 194 #[.int .i64 (n:Nat),.int .i64 (L:Nat),.func (.func g) #[] #[]] w λe w'=>∃r:Nat,e= .returned (.tuple #[.int .i64 (r:Nat),.int .i64 (rest r:Nat)])∧yp L (VE rest n) r∧Below w.heap.size w w':=by
 obtain⟨W0,hW0⟩:∃W0,W0=(w.alloc (.cells #[.int .i64 (n:Nat)] 3)).alloc (.cells #[.func (.func g) #[] #[]] 117):=⟨_,rfl⟩
 have hs0:W0.heap.size=w.heap.size+2:=by rw[hW0];simp
 have hy0:ze W0 w.heap.size 3 #[.int .i64 (n:Nat)]:=by rw[hW0];exact(ze.new _ _ _).alloc _
 have hx0:ze W0 (w.heap.size+1) 117 #[.func (.func g) #[] #[]]:=by rw[hW0];exact ze.new_at (by simp)
 have hB0:Below w.heap.size w W0:=by rw[hW0];exact((Below.refl _ w).alloc (Nat.le_refl _) _).alloc (by simp) _
 have hG:=JP 197 #[.pointer (some ⟨w.heap.size+1,0,none⟩),.pointer (some ⟨w.heap.size,0,none⟩)] L (VE rest n) W0 (enters_of Tryz.func197 (by kernel_rfl) rfl) (by omega)
  (λd W hd hb=>gZ g (w.heap.size+1) w.heap.size rest d n W hn (by omega) (hr d hd) eg (hx0.below hb (by omega)) (hy0.below hb (by omega)) (λW=>hf d W hd))
  (λa b hab hb h=>FQ hm a b hab hb h)
 have HG:Hid (Calls Tryz.prog 181 #[.int .i64 (L:Nat),.func (.func 197) #[] #[.pointer (some ⟨w.heap.size+1,0,none⟩),.pointer (some ⟨w.heap.size,0,none⟩)]] W0 λe w'=>∃r:Nat,e= .returned (.int .i64 (r:Nat))∧yp L (VE rest n) r∧Below W0.heap.size W0 w'):=hG;have hy0c:=hy0.cell 0;simp only[List.getElem?_toArray,List.getElem?_cons_zero]at hy0c;have HF:Hid (∀(d:Nat) (W:World),d≤L→Calls Tryz.prog g #[.int .i64 (d:Nat)] W λe W'=>e= .returned (.int .i64 (rest d:Nat))∧Below W.heap.size W W'):=hf;clear hG hf hr hm;go_enter Tryz.func194,Tryz.ntmps194
 go_wp2_with (first
  |((go_at_call 179)
    refine(vT _ _ _ _ ⟨by omega,by omega⟩).mono ?_;(rintro e w1 ⟨rfl,rfl⟩))
  |((go_at_call 181)
    rw[←hW0];refine HG.out.mono ?_;rintro e w1 ⟨r,rfl,h1,h4⟩;(have hxc:=(hx0.below h4 hx0.lt).cell 0))
  |((go_at_fn g)
    refine(HF.out r _ h1.1).mono ?_;(rintro e w2 ⟨rfl,h5⟩)))
 go_ret2
 exact⟨r,rfl,h1,(hB0.trans (h4.mono (by omega))).trans (h5.mono (by have:=h4.size;omega))⟩
theorem K2(n:Nat)(w:World)(h:n≤8192):Calls Tryz.prog 185 #[.int .i64 (n:Nat)] w λe w'=>∃r:Nat,e= .returned (.tuple #[.int .i64 (r:Nat),.int .i64 (tg r:Nat)])∧yp 8192 (VE tg n) r∧Below w.heap.size w w':=by
 have hs:=uI 195 tg n 8192 w h (by omega) (λd hd=>by unfold tg;omega) (λa b hab _=>Hg a b hab) (enters_of Tryz.func195 (by kernel_rfl) rfl)
  (λd W hd=>(zaq d W hd).mono (by rintro e W' ⟨rfl,rfl⟩;exact⟨rfl,Below.refl _ _⟩))
 generalize ((n:Nat):Int)=N at hs ⊢;clear h;go_enter Tryz.func185,Tryz.ntmps185
 go_wp2_with (first
  |((go_at_call 194)
    refine hs.mono ?_;(rintro e w1 ⟨r,rfl,h1,hb⟩)))
 go_ret2
 exact⟨r,rfl,h1,hb⟩
theorem FZ(n:Nat)(w:World)(h:n≤8192):Calls Tryz.prog 186 #[.int .i64 (n:Nat)] w λe w'=>∃r:Nat,e= .returned (.tuple #[.int .i64 (r:Nat),.int .i64 (hs r:Nat)])∧yp 2048 (VE hs n) r∧Below w.heap.size w w':=by
 have hs:=uI 196 hs n 2048 w h (by omega) (λd hd=>by have:=zaa d;omega) (λa b hab hb=>dc hab hb) (enters_of Tryz.func196 (by kernel_rfl) rfl)
  (λd W hd=>Dy d W (by omega))
 generalize ((n:Nat):Int)=N at hs ⊢;clear h;go_enter Tryz.func186,Tryz.ntmps186
 go_wp2_with (first
  |((go_at_call 194)
    refine hs.mono ?_;(rintro e w1 ⟨r,rfl,h1,hb⟩)))
 go_ret2
 exact⟨r,rfl,h1,hb⟩
theorem yS{f:FuncId}{args:Array Value}{w:World}{R:Ending→World→Prop}(i:Nat)(v:Value)(h:args[i]?=some v)(k:Calls Tryz.prog f args w R):Calls Tryz.prog f args w R:=k
theorem fl(s table chunk n b1 b2 b3:Nat)(W:World)(h1:s≤8192)(h2:table≤8192)(h3:chunk≤16)(c1:W.cell? ⟨b1,0,none⟩=some (.int .i64 (table:Nat)))(c2:W.cell? ⟨b2,0,none⟩=some (.int .i64 (chunk:Nat)))(c3:W.cell? ⟨b3,0,none⟩=some (.int .i64 (n:Nat))):
 Calls Tryz.prog 182 #[.int .i64 (s:Nat),.pointer (some ⟨b1,0,none⟩),.pointer (some ⟨b2,0,none⟩),.pointer (some ⟨b3,0,none⟩)] W λe W'=>e= .returned (.bool (QU table chunk n s))∧Below W.heap.size W W':=by
 have hm:s*chunk≤8192*16:=Nat.mul_le_mul h1 h3
 have HF:Hid (decide ((table:Int)+(s:Int)*(chunk:Int)≤(n:Int))=QU table chunk n s):=(by unfold QU;exact decide_eq_decide.2 (by rw[←Int.natCast_mul];omega):decide ((table:Int)+(s:Int)*(chunk:Int)≤(n:Int))=QU table chunk n s)
 have hm2:(s:Int)*(chunk:Int)≤131072:=by rw[←Int.natCast_mul];omega
 have hm3:0≤(s:Int)*(chunk:Int):=by rw[←Int.natCast_mul];omega
 generalize QU table chunk n s=bo at HF ⊢;have ht1:0≤(table:Int):=by omega
 have ht2:(table:Int)≤8192:=by omega
 generalize (table:Int)=T at *;generalize (s:Int)=S at *;generalize (chunk:Int)=C at *;generalize (n:Int)=N at *;clear h1 h2 h3 hm;go_enter Tryz.func182,Tryz.ntmps182
 go_wp2
 go_ret
 rw[HF.out];exact⟨rfl,Below.refl _ _⟩
def stA(table s:Nat):Nat:=if s=0 then 0 else table
def vt(origin chunk:Nat):Nat:=(origin+chunk-1) / chunk
def yX(origin chunk:Nat):Nat:=(vt origin chunk+15) / 16
theorem GK{origin chunk:Nat}(h1:1≤origin)(h2:origin≤8192)(h3:1≤chunk):1≤vt origin chunk∧vt origin chunk≤8192:=by
 unfold vt;constructor
 ·exact(Nat.le_div_iff_mul_le (by omega)).2 (by omega)
 ·refine Nat.div_le_of_le_mul ?_
  have:=Nat.mul_le_mul_right (chunk-1) h1
  have e:chunk*8192=8192*(chunk-1)+8192:=by
   obtain⟨k,rfl⟩:∃k,chunk=k+1:=⟨chunk-1,by omega⟩
   simp only[Nat.add_sub_cancel];omega
  omega
theorem Db(n o c:Int)(w:World)(h:¬((1≤n∧n≤8192)∧(1≤o∧o≤8192)∧(1≤c∧c≤16))):
 Calls Tryz.prog 162 #[.int .i64 n,.int .i64 o,.int .i64 c] w λe w'=>e= .returned (.tuple #[.int .i64 0,.int .i64 0])∧Below w.heap.size w w':=by
 have hb:∀a b,Below w.heap.size w ((w.alloc a).alloc b):=λa b=>((Below.refl _ w).alloc (Nat.le_refl _) _).alloc (by simp) _
 by_cases h1:1≤n∧n≤8192
 ·by_cases h2:1≤o∧o≤8192
  ·have h3:¬(1≤c∧c≤16):=λh3=>h ⟨h1,h2,h3⟩
   clear h;have H1:Hid (1≤n∧n≤8192):=h1;have H2:Hid (1≤o∧o≤8192):=h2;have H3:Hid (¬(1≤c∧c≤16)):=h3;clear h1 h2 h3;go_enter Tryz.func162,Tryz.ntmps162
   go_wp2_with (first
    |((go_at_call 179)
      refine yS 0 (.int .i64 n) rfl ?_;refine(vT _ _ _ _ H1.out).mono ?_;(rintro e w1 ⟨rfl,rfl⟩))
    |((go_at_call 179)
      refine yS 0 (.int .i64 o) rfl ?_;refine(vT _ _ _ _ H2.out).mono ?_;(rintro e w1 ⟨rfl,rfl⟩))
    |((go_at_call 179)
      refine(Jj _ _ _ _ H3.out).mono ?_;(rintro e w1 ⟨rfl,rfl⟩)))
   go_ret2
   exact⟨rfl,hb _ _⟩
  ·clear h
   have H1:Hid (1≤n∧n≤8192):=h1;have H2:Hid (¬(1≤o∧o≤8192)):=h2;clear h1 h2;go_enter Tryz.func162,Tryz.ntmps162
   go_wp2_with (first
    |((go_at_call 179)
      refine yS 0 (.int .i64 n) rfl ?_;refine(vT _ _ _ _ H1.out).mono ?_;(rintro e w1 ⟨rfl,rfl⟩))
    |((go_at_call 179)
      refine yS 0 (.int .i64 o) rfl ?_;refine(Jj _ _ _ _ H2.out).mono ?_;(rintro e w1 ⟨rfl,rfl⟩)))
   go_ret2
   exact⟨rfl,hb _ _⟩
 ·clear h
  have H1:Hid (¬(1≤n∧n≤8192)):=h1;clear h1;go_enter Tryz.func162,Tryz.ntmps162
  go_wp2_with (first
   |((go_at_call 179)
     refine(Jj _ _ _ _ H1.out).mono ?_;(rintro e w1 ⟨rfl,rfl⟩)))
  go_ret2
  exact⟨rfl,hb _ _⟩
theorem dQ(n o c:Nat)(w:World)(h1:1≤n∧n≤8192)(h2:1≤o∧o≤8192)(h3:1≤c∧c≤16):
 Calls Tryz.prog 162 #[.int .i64 (n:Nat),.int .i64 (o:Nat),.int .i64 (c:Nat)] w λe w'=>∃s:Nat,e= .returned (.tuple #[.int .i64 (stA (yX o c) s:Nat),.int .i64 (s:Nat)])∧yp (vt o c) (QU (yX o c) c n) s∧Below w.heap.size w w':=by
 have hcl:=GK h2.1 h2.2 h3.1
 have H1:Hid ((1:Int)≤(n:Int)∧(n:Int)≤8192):=(by omega:(1:Int)≤(n:Int)∧(n:Int)≤8192)
 have H2:Hid ((1:Int)≤(o:Int)∧(o:Int)≤8192):=(by omega:(1:Int)≤(o:Int)∧(o:Int)≤8192)
 have H3:Hid ((1:Int)≤(c:Int)∧(c:Int)≤16):=(by omega:(1:Int)≤(c:Int)∧(c:Int)≤16)
 have g1:=λW=>JV o c W (by omega) (by omega) (by omega)
 have g2:=λW=>JV (vt o c) 16 W (by omega) (by omega) (by omega)
 rw[show(o+c-1) / c=vt o c from rfl]at g1;rw[show(vt o c+16-1) / 16=yX o c from rfl]at g2;have ht:yX o c≤8192:=by unfold yX;omega
 generalize yX o c=T at *;generalize vt o c=K at *
 obtain⟨W0,hW0⟩:∃W0,W0=((w.alloc (.cells #[.int .i64 (n:Nat)] 3)).alloc (.cells #[.int .i64 (c:Nat)] 3)).alloc (.cells #[.int .i64 (T:Nat)] 3):=⟨_,rfl⟩
 have hs0:W0.heap.size=w.heap.size+3:=by rw[hW0];simp
 have c1:W0.cell? ⟨w.heap.size+1+1,0,none⟩=some (.int .i64 (T:Nat)):=by rw[hW0];simp[go_sem]
 have c2:W0.cell? ⟨w.heap.size+1,0,none⟩=some (.int .i64 (c:Nat)):=by rw[hW0];simp[go_sem]
 have c3:W0.cell? ⟨w.heap.size,0,none⟩=some (.int .i64 (n:Nat)):=by rw[hW0];simp[go_sem]
 have hB0:Below w.heap.size w W0:=by rw[hW0];exact(((Below.refl _ w).alloc (Nat.le_refl _) _).alloc (by simp) _).alloc (by simp;omega) _
 have hG:=JP 182 #[.pointer (some ⟨w.heap.size+1+1,0,none⟩),.pointer (some ⟨w.heap.size+1,0,none⟩),.pointer (some ⟨w.heap.size,0,none⟩)] K (QU T c n) W0 (enters_of Tryz.func182 (by kernel_rfl) rfl) (by omega)
  (λd W hd hb=>fl d T c n _ _ _ W (by omega) ht h3.2 (by rw[←c1];exact hb.cell (p:=⟨w.heap.size+1+1,0,none⟩) (by show w.heap.size+1+1<_;omega)) (by rw[←c2];exact hb.cell (p:=⟨w.heap.size+1,0,none⟩) (by show w.heap.size+1<_;omega)) (by rw[←c3];exact hb.cell (p:=⟨w.heap.size,0,none⟩) (by show w.heap.size<_;omega)))
  (λa b hab hb h=>gR a b hab h)
 have HG:Hid (Calls Tryz.prog 181 #[.int .i64 (K:Nat),.func (.func 182) #[] #[.pointer (some ⟨w.heap.size+1+1,0,none⟩),.pointer (some ⟨w.heap.size+1,0,none⟩),.pointer (some ⟨w.heap.size,0,none⟩)]] W0 λe w'=>∃r:Nat,e= .returned (.int .i64 (r:Nat))∧yp K (QU T c n) r∧Below W0.heap.size W0 w'):=hG;clear hG;have C1:Hid (W0.cell? ⟨w.heap.size+1+1,0,none⟩=some (.int .i64 (T:Nat))):=c1;have G1:Hid (∀W,Calls Tryz.prog 180 #[.int .i64 (o:Nat),.int .i64 (c:Nat)] W λe w'=>e= .returned (.int .i64 (K:Nat))∧w'=W):=g1;have G2:Hid (∀W,Calls Tryz.prog 180 #[.int .i64 (K:Nat),.int .i64 16] W λe w'=>e= .returned (.int .i64 (T:Nat))∧w'=W):=g2;clear c1 c2 c3 h1 h2 h3 hcl g1 g2;go_enter Tryz.func162,Tryz.ntmps162
 go_wp2_with (first
  |((go_at_call 179)
    refine yS 0 (.int .i64 (n:Nat)) rfl ?_;refine(vT _ _ _ _ H1.out).mono ?_;(rintro e w1 ⟨rfl,rfl⟩))
  |((go_at_call 179)
    refine yS 0 (.int .i64 (o:Nat)) rfl ?_;refine(vT _ _ _ _ H2.out).mono ?_;(rintro e w1 ⟨rfl,rfl⟩))
  |((go_at_call 179)
    refine(vT _ _ _ _ H3.out).mono ?_;(rintro e w1 ⟨rfl,rfl⟩))
  |((go_at_call 180)
    refine yS 1 (.int .i64 16) rfl ?_;refine(G2.out _).mono ?_;(rintro e w1 ⟨rfl,rfl⟩))
  |((go_at_call 180)
    refine(G1.out _).mono ?_;(rintro e w1 ⟨rfl,rfl⟩))
  |((go_at_call 181)
    rw[←hW0];refine HG.out.mono ?_;rintro e w1 ⟨r,rfl,h1,h4⟩;have c1:w1.cell? ⟨w.heap.size+1+1,0,none⟩=some (.int .i64 (T:Nat)):=(h4.cell (p:=⟨w.heap.size+1+1,0,none⟩) (by show w.heap.size+1+1<_;omega)).trans C1.out;(clear HG hW0)))
 all_goals go_ret2
 ·rename_i hz
  obtain rfl:r=0:=by simpa using hz
  exact⟨0,rfl,h1,hB0.trans (h4.mono (by omega))⟩
 ·rename_i hz
  have hz':¬r=0:=by simpa using hz
  refine⟨r,?_,h1,hB0.trans (h4.mono (by omega))⟩;unfold stA;rw[if_neg hz'];rfl
structure R3 where
 d:Int
 f:Int
 c:Int
def R3.v(r:R3):Value:= .agg #[.int .i64 r.d,.int .i64 r.f,.int .i64 r.c]
def yC(f c:Int):Bool:=decide (0<c∧0≤f∧c≤2147483647∧f≤2147483647-c)
theorem Vd(f c:Int):yC f c=true↔(0<c∧0≤f∧c≤2147483647∧f≤2147483647-c):=by unfold yC;simp
theorem Kf(f c:Int):yC f c=false↔ ¬(0<c∧0≤f∧c≤2147483647∧f≤2147483647-c):=by unfold yC;simp
def Zf(a b:R3):Bool:=decide (yC a.f a.c=true∧yC b.f b.c=true∧a.d=b.d∧a.f<b.f+b.c∧b.f<a.f+a.c)
theorem F8(a n:Int)(w:World)(h:0≤a∧0≤n∧n≤2147483647∧a≤2147483647-n):Calls Tryz.prog 95 #[.int .i64 a,.int .i64 n,.int .i64 2147483647] w λe w'=>e= .returned (.bool true)∧w'=w:=by
 obtain⟨h1,h2,h3,h4⟩:=h;go_enter Tryz.func95,Tryz.ntmps95
 go_wp2
 go_ret
 exact⟨rfl,rfl⟩
theorem Hm(a n:Int)(w:World)(h:¬(0≤a∧0≤n∧n≤2147483647∧a≤2147483647-n)):Calls Tryz.prog 95 #[.int .i64 a,.int .i64 n,.int .i64 2147483647] w λe w'=>e= .returned (.bool false)∧w'=w:=by
 rcases(by omega:a<0∨(0≤a∧n<0)∨(0≤a∧0≤n∧2147483647<n)∨(0≤a∧0≤n∧n≤2147483647∧¬a≤2147483647-n))with h1|⟨h1,h2⟩|⟨h1,h2,h3⟩|⟨h1,h2,h3,h4⟩
 case inr.inr.inr=>have h5:=decide_eq_false h4
                   clear h;go_enter Tryz.func95,Tryz.ntmps95
                   go_wp2
                   go_ret
                   exact⟨rfl,rfl⟩
 all_goals
  clear h;go_enter Tryz.func95,Tryz.ntmps95
  go_wp2
  go_ret
  exact⟨rfl,rfl⟩
theorem UX(d f c:Int)(w:World):Calls Tryz.prog 64 #[.agg #[.int .i64 d,.int .i64 f,.int .i64 c]] w λe w'=>e= .returned (.bool (yC f c))∧Below w.heap.size w w':=by
 have hb:∀a,Below w.heap.size w (w.alloc a):=λa=>(Below.refl _ w).alloc (Nat.le_refl _) _
 by_cases h0:0<c
 ·by_cases h:0≤f∧0≤c∧c≤2147483647∧f≤2147483647-c
  ·have hl:yC f c=true:=(Vd f c).2 ⟨h0,h.1,h.2.2.1,h.2.2.2⟩
   have H:Hid (0≤f∧0≤c∧c≤2147483647∧f≤2147483647-c):=h;rw[hl];clear h hl;go_enter Tryz.func64,Tryz.ntmps64
   go_wp2_with (first
    |((go_at_call 95)
      refine(F8 _ _ _ H.out).mono ?_;(rintro e w1 ⟨rfl,rfl⟩)))
   go_ret
   exact⟨rfl,hb _⟩
  ·have hl:yC f c=false:=(Kf f c).2 (λk=>h ⟨k.2.1,by omega,k.2.2.1,k.2.2.2⟩)
   have H:Hid (¬(0≤f∧0≤c∧c≤2147483647∧f≤2147483647-c)):=h;rw[hl];clear h hl;go_enter Tryz.func64,Tryz.ntmps64
   go_wp2_with (first
    |((go_at_call 95)
      refine(Hm _ _ _ H.out).mono ?_;(rintro e w1 ⟨rfl,rfl⟩)))
   go_ret
   exact⟨rfl,hb _⟩
 ·have hl:yC f c=false:=(Kf f c).2 (λk=>h0 k.1)
  rw[hl];clear hl;go_enter Tryz.func64,Tryz.ntmps64
  go_wp2
  go_ret
  exact⟨rfl,hb _⟩
theorem xS{a b:R3}(h:¬(yC a.f a.c=true∧yC b.f b.c=true∧a.d=b.d∧a.f<b.f+b.c∧b.f<a.f+a.c)):Zf a b=false:=by
 unfold Zf;exact decide_eq_false h
theorem Fi{a b:R3}(h:yC a.f a.c=true∧yC b.f b.c=true∧a.d=b.d∧a.f<b.f+b.c∧b.f<a.f+a.c):Zf a b=true:=by
 unfold Zf;exact decide_eq_true h
theorem jQ{w:World}{g t:Nat}{x y z:Value}(h:ze w g t #[x,y,z]):w.cell? ⟨g,0,none⟩=some x∧w.cell? ⟨g,1,none⟩=some y∧w.cell? ⟨g,2,none⟩=some z:=⟨h.cell 0,h.cell 1,h.cell 2⟩
theorem FB(a b:R3)(w:World):Calls Tryz.prog 34 #[a.v,b.v] w λe w'=>e= .returned (.bool (Zf a b))∧Below w.heap.size w w':=by
 obtain⟨ad,af,ac⟩:=a;obtain⟨bd,bf,bc⟩:=b
 obtain⟨W0,hW0⟩:∃W0,W0=(w.alloc (.cells #[.int .i64 ad,.int .i64 af,.int .i64 ac] 42)).alloc (.cells #[.int .i64 bd,.int .i64 bf,.int .i64 bc] 42):=⟨_,rfl⟩
 have hB0:Below w.heap.size w W0:=by rw[hW0];exact((Below.refl _ w).alloc (Nat.le_refl _) _).alloc (by simp) _
 have hs0:W0.heap.size=w.heap.size+2:=by rw[hW0];simp
 have hA:ze W0 w.heap.size 42 #[.int .i64 ad,.int .i64 af,.int .i64 ac]:=by rw[hW0];exact(ze.new _ _ _).alloc _
 have hB:ze W0 (w.heap.size+1) 42 #[.int .i64 bd,.int .i64 bf,.int .i64 bc]:=by rw[hW0];exact ze.new_at (by simp)
 have hla:=UX ad af ac W0;by_cases h1:yC af ac=true
 ·rw[h1]at hla
  have HA:Hid (Calls Tryz.prog 64 #[.agg #[.int .i64 ad,.int .i64 af,.int .i64 ac]] W0 λe w'=>e= .returned (.bool true)∧Below W0.heap.size W0 w'):=hla;obtain⟨l1,l2,l3,l4⟩:=(Vd af ac).1 h1;clear hla;by_cases h2:yC bf bc=true
  ·have HB:Hid (∀W,Calls Tryz.prog 64 #[.agg #[.int .i64 bd,.int .i64 bf,.int .i64 bc]] W λe w'=>e= .returned (.bool true)∧Below W.heap.size W w'):=λW=>by rw[←h2];exact UX bd bf bc W
   obtain⟨m1,m2,m3,m4⟩:=(Vd bf bc).1 h2;by_cases h3:ad=bd
   ·by_cases h4:af<bf+bc
    ·by_cases h5:bf<af+ac
     ·rw[Fi (a:=⟨ad,af,ac⟩) (b:=⟨bd,bf,bc⟩) ⟨h1,h2,h3,h4,h5⟩]
      simp only[R3.v];subst h3;clear h1 h2;go_enter Tryz.func34,Tryz.ntmps34
      go_wp2_with (first
       |((go_at_call 64)
         refine yS 0 (.agg #[.int .i64 ad,.int .i64 af,.int .i64 ac]) rfl ?_;rw[←hW0];refine HA.out.mono ?_;rintro e w1 ⟨rfl,hb1⟩;obtain⟨a0,a1,a2⟩:=jQ (hA.below hb1 hA.lt);(obtain⟨b0,b1,b2⟩:=jQ (hB.below hb1 hB.lt)))
       |((go_at_call 64)
         refine(HB.out _).mono ?_;rintro e w2 ⟨rfl,hb2⟩;obtain⟨x0,x1,x2⟩:=jQ ((hA.below hb1 hA.lt).below hb2 (hA.below hb1 hA.lt).lt);(obtain⟨y0,y1,y2⟩:=jQ ((hB.below hb1 hB.lt).below hb2 (hB.below hb1 hB.lt).lt))))
      go_ret
      exact⟨rfl,(hB0.trans (hb1.mono (by omega))).trans (hb2.mono (by have:=hb1.size;omega))⟩
     ·rw[xS (a:=⟨ad,af,ac⟩) (b:=⟨bd,bf,bc⟩) (λk=>h5 k.2.2.2.2)]
      have h6:=decide_eq_false h5;simp only[R3.v];subst h3;clear h1 h2;go_enter Tryz.func34,Tryz.ntmps34
      go_wp2_with (first
       |((go_at_call 64)
         refine yS 0 (.agg #[.int .i64 ad,.int .i64 af,.int .i64 ac]) rfl ?_;rw[←hW0];refine HA.out.mono ?_;rintro e w1 ⟨rfl,hb1⟩;obtain⟨a0,a1,a2⟩:=jQ (hA.below hb1 hA.lt);(obtain⟨b0,b1,b2⟩:=jQ (hB.below hb1 hB.lt)))
       |((go_at_call 64)
         refine(HB.out _).mono ?_;rintro e w2 ⟨rfl,hb2⟩;obtain⟨x0,x1,x2⟩:=jQ ((hA.below hb1 hA.lt).below hb2 (hA.below hb1 hA.lt).lt);(obtain⟨y0,y1,y2⟩:=jQ ((hB.below hb1 hB.lt).below hb2 (hB.below hb1 hB.lt).lt))))
      go_ret
      exact⟨rfl,(hB0.trans (hb1.mono (by omega))).trans (hb2.mono (by have:=hb1.size;omega))⟩
    ·rw[xS (a:=⟨ad,af,ac⟩) (b:=⟨bd,bf,bc⟩) (λk=>h4 k.2.2.2.1)]
     simp only[R3.v];subst h3;clear h1 h2;go_enter Tryz.func34,Tryz.ntmps34
     go_wp2_with (first
      |((go_at_call 64)
        refine yS 0 (.agg #[.int .i64 ad,.int .i64 af,.int .i64 ac]) rfl ?_;rw[←hW0];refine HA.out.mono ?_;rintro e w1 ⟨rfl,hb1⟩;obtain⟨a0,a1,a2⟩:=jQ (hA.below hb1 hA.lt);(obtain⟨b0,b1,b2⟩:=jQ (hB.below hb1 hB.lt)))
      |((go_at_call 64)
        refine(HB.out _).mono ?_;rintro e w2 ⟨rfl,hb2⟩;obtain⟨x0,x1,x2⟩:=jQ ((hA.below hb1 hA.lt).below hb2 (hA.below hb1 hA.lt).lt);(obtain⟨y0,y1,y2⟩:=jQ ((hB.below hb1 hB.lt).below hb2 (hB.below hb1 hB.lt).lt))))
     go_ret
     exact⟨rfl,(hB0.trans (hb1.mono (by omega))).trans (hb2.mono (by have:=hb1.size;omega))⟩
   ·rw[xS (a:=⟨ad,af,ac⟩) (b:=⟨bd,bf,bc⟩) (λk=>h3 k.2.2.1)]
    simp only[R3.v];clear h1 h2;go_enter Tryz.func34,Tryz.ntmps34
    go_wp2_with (first
     |((go_at_call 64)
       refine yS 0 (.agg #[.int .i64 ad,.int .i64 af,.int .i64 ac]) rfl ?_;rw[←hW0];refine HA.out.mono ?_;rintro e w1 ⟨rfl,hb1⟩;obtain⟨a0,a1,a2⟩:=jQ (hA.below hb1 hA.lt);(obtain⟨b0,b1,b2⟩:=jQ (hB.below hb1 hB.lt)))
     |((go_at_call 64)
       refine(HB.out _).mono ?_;rintro e w2 ⟨rfl,hb2⟩;obtain⟨x0,x1,x2⟩:=jQ ((hA.below hb1 hA.lt).below hb2 (hA.below hb1 hA.lt).lt);(obtain⟨y0,y1,y2⟩:=jQ ((hB.below hb1 hB.lt).below hb2 (hB.below hb1 hB.lt).lt))))
    go_ret
    exact⟨rfl,(hB0.trans (hb1.mono (by omega))).trans (hb2.mono (by have:=hb1.size;omega))⟩
  ·have HB:Hid (∀W,Calls Tryz.prog 64 #[.agg #[.int .i64 bd,.int .i64 bf,.int .i64 bc]] W λe w'=>e= .returned (.bool false)∧Below W.heap.size W w'):=λW=>by rw[←(show yC bf bc=false by simpa using h2)];exact UX bd bf bc W
   rw[xS (a:=⟨ad,af,ac⟩) (b:=⟨bd,bf,bc⟩) (λk=>h2 k.2.1)];simp only[R3.v];clear h1 h2;go_enter Tryz.func34,Tryz.ntmps34
   go_wp2_with (first
    |((go_at_call 64)
      refine yS 0 (.agg #[.int .i64 ad,.int .i64 af,.int .i64 ac]) rfl ?_;rw[←hW0];refine HA.out.mono ?_;rintro e w1 ⟨rfl,hb1⟩;obtain⟨a0,a1,a2⟩:=jQ (hA.below hb1 hA.lt);(obtain⟨b0,b1,b2⟩:=jQ (hB.below hb1 hB.lt)))
    |((go_at_call 64)
      refine(HB.out _).mono ?_;rintro e w2 ⟨rfl,hb2⟩;obtain⟨x0,x1,x2⟩:=jQ ((hA.below hb1 hA.lt).below hb2 (hA.below hb1 hA.lt).lt);(obtain⟨y0,y1,y2⟩:=jQ ((hB.below hb1 hB.lt).below hb2 (hB.below hb1 hB.lt).lt))))
   go_ret
   exact⟨rfl,(hB0.trans (hb1.mono (by omega))).trans (hb2.mono (by have:=hb1.size;omega))⟩
 ·rw[xS (a:=⟨ad,af,ac⟩) (b:=⟨bd,bf,bc⟩) (λk=>h1 k.1)]
  rw[show yC af ac=false by simpa using h1]at hla;have HA:Hid (Calls Tryz.prog 64 #[.agg #[.int .i64 ad,.int .i64 af,.int .i64 ac]] W0 λe w'=>e= .returned (.bool false)∧Below W0.heap.size W0 w'):=hla;simp only[R3.v];clear h1 hla;go_enter Tryz.func34,Tryz.ntmps34
  go_wp2_with (first
   |((go_at_call 64)
     rw[←hW0];refine HA.out.mono ?_;(rintro e w1 ⟨rfl,hb1⟩)))
  go_ret
  exact⟨rfl,hB0.trans (hb1.mono (by omega))⟩
end
section
structure Pt where
 kind:Nat
 size:Nat
 kids:List Nat
 dev:Nat
 first:Nat
 chunk:Nat
 key:List UInt8
 root:List UInt8
structure Mn where
 word:List UInt8
 node:Nat
 bytes:List UInt8
abbrev xv:=List (List UInt8×Mn)
abbrev Er:=Nat×Int
def lk(ns:xv)(s:List UInt8):Option Mn:=(ns.find? (λx=>x.1==s)).map (·.2)
def vq(ns:xv)(ws:List (List UInt8)):Nat:=(ns.filter (λx=>ws.any (λy=>x.2.word==y))).length
def jj(ns:xv)(n:Nd)(ws:List (List UInt8)):Except Er Mn:=match lk ns n.s with
 |none=> .error (131,n.a)
 |some m=>if ws.any (λy=>m.word==y)then .ok m else .error (133,n.a)
def Zt(o:List Bool)(p:Pt):Bool:=p.kind==8||(if p.kind==5 then p.kids.drop 1 else p.kids).any λk=>o.getD k false
def qg(ps:List Pt):List Bool:=ps.foldl (λo p=>o++ [Zt o p]) []
def zK(ps:List Pt)(k:Nat):Pt:=ps.getD k ⟨0,0,[],0,0,0,[],[]⟩
def sz(ps:List Pt)(k:Nat):Nat:=(zK ps k).size
def DG(L:Nat)(F:Nat→Bool):Nat:=match L with
 |0=>0
 |L+1=>let r:=DG L F
       if r=L∧F (L+1)=true then L+1 else r
theorem VA(L:Nat)(F:Nat→Bool):yp L F (DG L F):=by
 induction L with
 |zero=>exact⟨Nat.le_refl _,λt h=>absurd h (Nat.not_lt_zero _),λh=>absurd h (Nat.not_lt_zero _)⟩
 |succ L ih =>
  obtain⟨h1,h2,h3⟩:=ih;unfold DG;show yp (L+1) F (if DG L F=L∧F (L+1)=true then L+1 else DG L F);generalize DG L F=r at *;by_cases e:r=L∧F (L+1)=true
  ·rw[if_pos e]
   obtain⟨rfl,e2⟩:=e;refine⟨Nat.le_refl _,λt ht=>?_,λh=>absurd h (Nat.lt_irrefl _)⟩;by_cases e3:t<r
   ·exact h2 t e3
   ·obtain rfl:t=r:=by omega
    exact e2
  ·rw[if_neg e]
   refine⟨by omega,h2,λ_=>?_⟩;by_cases e3:r<L
   ·exact h3 e3
   ·obtain rfl:r=L:=by omega
    cases hF:F (r+1)with
    |false=>rfl
    |true=>exact absurd ⟨rfl,hF⟩ e
def dI(n:Nat):Nat:=DG 8192 (VE tg n)
def dV(n:Nat):Nat:=DG 2048 (VE hs n)
def slt(n o:Nat)(c:Int):Nat:=if(1≤n∧n≤8192)∧(1≤o∧o≤8192)∧(1≤c∧c≤16)then DG (vt o c.toNat) (QU (yX o c.toNat) c.toNat n)else 0
def JE(b:UInt8):Nat:=if 97≤b.toNat then b.toNat-87 else b.toNat-48
def vZ:List UInt8→List UInt8
 |a::b::r=>UInt8.ofNat (16*JE a+JE b)::vZ r
 |_=> []
def jo(n:Nd):List Nd:=n.l.filter λx=> !(x.op==vk||x.op==js)
def yy(l:List Nd)(k:Nat):Nd:=l.getD k (.mk [] [] 0 0 [])
def yN(ps:List Pt)(n:Nd)(ks:List Nat):Except Er Pt:=
 if ¬(2≤ks.length∧ks.length≤4)then .error (135,n.a)
 else if n.op=qZ then
  if(ks.map (sz ps)).sum≤8192 then .ok ⟨3,(ks.map (sz ps)).sum,ks,0,0,0,[],[]⟩else .error (134,n.a)
 else if ks.all (λk=>sz ps k==sz ps (ks.getD 0 0))then .ok ⟨4,sz ps (ks.getD 0 0),ks,0,0,0,[],[]⟩else .error (134,n.a)
def qN(ns:xv)(n:Nd)(size:Nat)(ks:List Nat):Except Er Pt:=
 if n.op=vx then match jj ns (yy n.l 1) [zT]with
  | .error e=> .error e
  | .ok m=>if m.bytes.take 16=m.bytes.drop 16 then .error (135,n.a)else .ok ⟨6,size,ks,0,0,0,m.bytes,[]⟩
 else if n.op=qH then match jj ns (yy n.l 1) [zT]with
  | .error e=> .error e
  | .ok m=>if dI size=0 then .error (134,n.a)else .ok ⟨7,dI size,ks,0,0,0,m.bytes,[]⟩
 else match jj ns (yy n.l 1) [zD]with
  | .error e=> .error e
  | .ok m=>if dV size=0 then .error (134,n.a)else .ok ⟨8,dV size,ks,0,0,0,[],m.bytes⟩
def jU(ns:xv)(ps:List Pt)(n:Nd)(ks:List Nat):Except Er Pt:=
 if n.op=jh then
  if 0<(yy n.l 2).n∧(yy n.l 1).n+(yy n.l 2).n≤sz ps (ks.getD 0 0)then .ok ⟨2,(yy n.l 2).n.toNat,ks,0,(yy n.l 1).n.toNat,0,[],[]⟩else .error (134,n.a)
 else if n.op=qZ∨n.op=jq then yN ps n ks
 else if n.op=qw then
  if slt (sz ps (ks.getD 1 0)) (sz ps (ks.getD 0 0)) (yy n.l 2).n=0 then .error (134,n.a)
  else if(qg ps).getD (ks.getD 1 0) false then .error (139,n.a)
  else .ok ⟨5,sz ps (ks.getD 0 0),ks,0,0,(yy n.l 2).n.toNat,[],[]⟩
 else qN ns n (sz ps (ks.getD 0 0)) ks
def jy(f:List Pt→Nd→Except Er (Nat×List Pt)):List Pt→List Nd→Except Er (List Nat×List Pt)
 |ps,[]=> .ok ([],ps)
 |ps,x::l=>match f ps x with
  | .error e=> .error e
  | .ok (k,p1)=>match jy f p1 l with
    | .error e=> .error e
    | .ok (ks,p2)=> .ok (k::ks,p2)
def jN(ns:xv):Nat→List Pt→Nd→Except Er (Nat×List Pt)
 |0,ps,n=> .error (0,0)
 |d+1,ps,n=>if n.op=j8 then match jj ns n [zc,zp]with
   | .error e=> .error e
   | .ok m=> .ok (m.node,ps)
  else match jy (jN ns d) ps (jo n)with
   | .error e=> .error e
   | .ok (ks,p1)=>if 64≤p1.length then .error (137,n.a)else match jU ns p1 n ks with
     | .error e=> .error e
     | .ok p=> .ok (p1.length,p1++ [p])
structure Ck where
 devs:List Nat
 jour:Option Nat
 parts:List Pt
 expo:Option Nat
 ro:Bool
 eat:Int
 names:xv
def full(ns:xv)(op:List UInt8):Bool:=
 if op=zc∨op=zg then vq ns [zc,zg]==8
 else if op=zT∨op=zD then vq ns [zT,zD]==8
 else vq ns [zp]==16
def jX(c:Ck)(n:Nd):Except Er (Ck×Mn):=
 if n.op=zg then
  if ¬(256≤n.n∧n.n≤2048)then .error (134,n.a)
  else if c.jour.isSome then .error (138,n.a)
  else .ok ({ c with jour:=some c.devs.length,devs:=c.devs++ [n.n.toNat] },⟨n.op,vq c.names [zc],[]⟩)
 else if n.op=zc then
  if ¬(1≤n.n∧n.n≤2048)then .error (134,n.a)
  else .ok ({ c with devs:=c.devs++ [n.n.toNat] },⟨n.op,vq c.names [zc],[]⟩)
 else if n.op=zT∨n.op=zD then
  if(yy n.l 0).s.length≠64 then .error (135,n.a)else .ok (c,⟨n.op,0,vZ (yy n.l 0).s⟩)
 else match jN c.names 12 c.parts (yy n.l 0)with
  | .error e=> .error e
  | .ok (k,ps)=> .ok ({ c with parts:=ps },⟨n.op,k,[]⟩)
def yJ(c:Ck)(n:Nd):Except Er Ck:=
 if c.expo.isSome then .error (138,n.a)
 else match jj c.names n [zc,zp]with
  | .error e=> .error e
  | .ok m=> .ok { c with expo:=some m.node,ro:=decide (n.n=1)||(qg c.parts).getD m.node false,eat:=n.a }
def jH(c:Ck)(n:Nd):Except Er Ck:=
 if n.op=zv then yJ c n
 else if(lk c.names n.s).isSome then .error (132,n.a)
 else if full c.names n.op then .error (137,n.a)
 else match jX c n with
  | .error e=> .error e
  | .ok (c1,m)=> .ok { c1 with names:=c1.names++ [(n.s,m)] }
def jR:Ck→List Nd→Except Er Ck
 |c,[]=> .ok c
 |c,x::l=>match jH c x with
  | .error e=> .error e
  | .ok c1=>jR c1 l
def qo:Nat→List Nd→List Pt
 |_,[]=> []
 |d,x::l=>if x.op=zc then⟨1,x.n.toNat,[],d,0,0,[],[]⟩::qo (d+1) l else if x.op=zg then qo (d+1) l else qo d l
def jJ(ps:List Pt)(p f c:Int):Bool:=decide (0≤p∧p<ps.length∧0≤f∧0<c∧f≤(sz ps p.toNat:Int)-c)
def yj(ps:List Pt)(g:List R3→Nat→Int→Int→List R3)(out:List R3)(p:Pt)(f c:Int):List R3:=
 if p.kind=1 then out++ [⟨p.dev,f,c⟩]
 else if p.kind=2 then p.kids.foldl (λo k=>g o k (f+p.first) c) out
 else if p.kind=4∨p.kind=6 then p.kids.foldl (λo k=>g o k f c) out
 else if p.kind=3 then(p.kids.foldl (λ(x:List R3×Int) k=>(g x.1 k (max (f-x.2) 0) (min (f+c-x.2) (sz ps k)-max (f-x.2) 0),x.2+sz ps k)) (out,0)).1
 else if p.kind=5 then g (g out (p.kids.getD 0 0) f c) (p.kids.getD 1 0) 0 (sz ps (p.kids.getD 1 0))
 else if p.kind=7∨p.kind=8 then g out (p.kids.getD 0 0) 0 (sz ps (p.kids.getD 0 0))
 else out
def vS(ps:List Pt):Nat→List R3→Nat→Int→Int→List R3
 |0,out,_,_,_=>out
 |d+1,out,k,f,c=>if 256<out.length∨jJ ps k f c=false then out else yj ps (vS ps d) out (zK ps k) f c
def ZA(ps:List Pt)(p f c:Int):List R3:=if jJ ps p f c=false then[]else vS ps ps.length [] p.toNat f c
def QD(l:List R3):Bool:=(List.range l.length).any λb=>(List.range b).any λa=>Zf (l.getD a ⟨0,0,0⟩) (l.getD b ⟨0,0,0⟩)
structure VK where
 devs:List Nat
 jour:Nat
 parts:List Pt
 expo:Nat
 ro:Bool
def vw(c:Ck):Except Er VK:=match c.jour,c.expo with
 |some j,some x=>if 256<(ZA c.parts x 0 (sz c.parts x)).length then .error (137,c.eat)
  else if QD (ZA c.parts x 0 (sz c.parts x))then .error (136,c.eat)
  else .ok ⟨c.devs,j,c.parts,x,c.ro⟩
 |_,_=> .error (138,0)
def Kz(n:Nd):Except Er VK:=match jR ⟨[],none,qo 0 n.l,none,false,0,[]⟩ n.l with
 | .error e=> .error e
 | .ok c=>vw c
end
section
def yW(ps:List Pt)(k:Nat):Prop:=k<ps.length∧1≤sz ps k∧sz ps k≤8192
structure Hx (ps:List Pt) (p:Pt):Prop where
 kids:∀k ∈ p.kids,yW ps k
 some':p.kids≠ []
 lo:1≤p.size
 hi:p.size≤8192
 kind:2≤p.kind∧p.kind≤8
 lin:p.kind=2→p.first+p.size≤sz ps (p.kids.getD 0 0)
 cat:p.kind=3→p.size=(p.kids.map (sz ps)).sum
 mir:p.kind=4→∀k ∈ p.kids,sz ps k=p.size
 snap:p.kind=5→p.kids.length=2∧sz ps (p.kids.getD 0 0)=p.size
 cry:p.kind=6→sz ps (p.kids.getD 0 0)=p.size
 one:(p.kind=2∨p.kind=6∨p.kind=7∨p.kind=8)→p.kids.length=1
structure Da (ps:List Pt) (p:Pt):Prop extends Hx ps p where
 four:p.kids.length≤4
 fst:p.first≤8192
def yz(ns:xv)(ps:List Pt):Prop:=∀x ∈ ns,((x.2.word=zc∨x.2.word=zp)→yW ps x.2.node)∧((x.2.word=zT∨x.2.word=zD)→x.2.bytes.length=32)
theorem GS(ps qs:List Pt){k:Nat}(h:k<ps.length):zK (ps++qs) k=zK ps k:=by
 unfold zK;rw[List.getD_eq_getElem?_getD,List.getD_eq_getElem?_getD,List.getElem?_append_left h]
theorem KV(ps qs:List Pt)(p:Pt):zK (ps++p::qs) ps.length=p:=by
 unfold zK;rw[List.getD_eq_getElem?_getD,List.getElem?_append_right (Nat.le_refl _)];simp
theorem Xt(ps qs:List Pt){k:Nat}(h:k<ps.length):sz (ps++qs) k=sz ps k:=by unfold sz;rw[GS ps qs h]
theorem yW.more{ps:List Pt}{k:Nat}(h:yW ps k)(qs:List Pt):yW (ps++qs) k:=by
 refine⟨by have:=h.1;simp;omega,?_⟩;rw[Xt ps qs h.1];exact h.2
theorem yz.more{ns:xv}{ps:List Pt}(h:yz ns ps)(qs:List Pt):yz ns (ps++qs):=λx hx=>⟨λe=>((h x hx).1 e).more qs,(h x hx).2⟩
def Grown':List Pt→List Pt→Prop
 |_,[]=>True
 |ps,p::qs=>Da ps p∧Grown' (ps++ [p]) qs
theorem Grown'.app{qs rs:List Pt}:∀ {ps:List Pt},Grown' ps qs→Grown' (ps++qs) rs→Grown' ps (qs++rs):=by
 induction qs with
 |nil=>intro ps _ h;simpa using h
 |cons q qs ih =>
  intro ps h1 h2;exact⟨h1.1,ih h1.2 (by simpa using h2)⟩
theorem zaw{ns:xv}{s:List UInt8}{m:Mn}(h:lk ns s=some m):(s,m) ∈ ns:=by
 unfold lk at h;cases hf:ns.find? (λx=>x.1==s)with
 |none=>rw[hf]at h;cases h
 |some x =>
  rw[hf]at h;simp only[Option.map_some,Option.some.injEq]at h;have h1:=List.mem_of_find?_eq_some hf;have h2:=List.find?_some hf;simp only[beq_iff_eq]at h2;rw[←h2,←h];exact h1
theorem ZW{ns:xv}{n:Nd}{ws:List (List UInt8)}{m:Mn}(h:jj ns n ws= .ok m):(n.s,m) ∈ ns∧m.word ∈ ws:=by
 unfold jj at h;cases hl:lk ns n.s with
 |none=>rw[hl]at h;cases h
 |some m' =>
  rw[hl]at h;simp only at h
  split at h
  ·rename_i hw
   cases h;refine⟨zaw hl,?_⟩;simp only[List.any_eq_true,beq_iff_eq]at hw;obtain⟨y,hy,e⟩:=hw;rw[e];exact hy
  ·cases h
theorem Qg{ns:xv}{ps:List Pt}(hn:yz ns ps){n:Nd}{m:Mn}(h:jj ns n [zc,zp]= .ok m):yW ps m.node:=by
 obtain⟨h1,h2⟩:=ZW h;refine(hn _ h1).1 ?_
 simpa using h2
theorem gT{ns:xv}{ps:List Pt}(hn:yz ns ps){n:Nd}{m:Mn}{w:List UInt8}(hw:w=zT∨w=zD)(h:jj ns n [w]= .ok m):m.bytes.length=32:=by
 obtain⟨h1,h2⟩:=ZW h;refine(hn _ h1).2 ?_;have :m.word=w:=by simpa using h2
 rw[this];exact hw
theorem Yf{x:Nat}(h:¬x=0):1≤x:=by omega
theorem zbi(n:Nat):dI n≤8192:=(VA _ _).1
theorem zbv(n:Nat):dV n≤2048:=(VA _ _).1
structure ZX (n:Nd) (K:Nat):Prop where
 pos:1≤K
 lin:n.op=jh→K=1∧0≤(yy n.l 1).n∧0≤(yy n.l 2).n
 one:(n.op≠qZ∧n.op≠jq∧n.op≠qw)→K=1
 snap:n.op=qw→K=2
theorem zaH(f:Nat→Nat)(l:List Nat)(k:Nat)(h:k ∈ l):f k≤(l.map f).sum:=by
 induction l with
 |nil=>cases h
 |cons a l ih =>
  simp only[List.map_cons,List.sum_cons];rcases List.mem_cons.1 h with rfl|h'
  ·omega
  ·have:=ih h'
   omega
theorem ZR{l:List Nat}{k:Nat}(h:k<l.length):l.getD k 0 ∈ l:=by
 rw[List.getD_eq_getElem?_getD,List.getElem?_eq_getElem h];exact List.getElem_mem h
theorem gx{ns:xv}{ps:List Pt}{n:Nd}{ks:List Nat}{p:Pt}(hn:yz ns ps)(hk:∀k ∈ ks,yW ps k)(hs:ZX n ks.length)(h:jU ns ps n ks= .ok p):Hx ps p∧p.kids=ks:=by
 have h0:ks≠ []:=by intro e;have:=hs.pos;rw[e]at this;simp at this
 have k0:yW ps (ks.getD 0 0):=hk _ (ZR (by have:=hs.pos;omega));unfold jU at h;by_cases e1:n.op=jh
 ·rw[if_pos e1]at h
  obtain⟨hl1,hl2,hl3⟩:=hs.lin e1
  split at h
  ·rename_i hc
   cases h;refine⟨⟨hk,h0,(by show 1≤Int.toNat _;omega),(by show Int.toNat _≤8192;have:=k0.2.2;omega),⟨by simp,by simp⟩,λ_=>?_,(by intro e;cases e),(by intro e;cases e),(by intro e;cases e),(by intro e;cases e),λ_=>hl1⟩,rfl⟩;show(yy n.l 1).n.toNat+(yy n.l 2).n.toNat≤sz ps (ks.getD 0 0);omega
  ·cases h
 ·rw[if_neg e1]at h
  by_cases e2:n.op=qZ∨n.op=jq
  ·rw[if_pos e2]at h
   unfold yN at h
   split at h
   ·cases h
   ·split at h
    ·split at h
     ·rename_i hc
      cases h;refine⟨⟨hk,h0,?_,hc,⟨by simp,by simp⟩,(by intro e;cases e),λ_=>rfl,(by intro e;cases e),(by intro e;cases e),(by intro e;cases e),(by rintro(e|e|e|e)<;>cases e)⟩,rfl⟩;have:=zaH (sz ps) ks _ (ZR (k:=0) (by have:=hs.pos;omega));have:=k0.2.1;show 1≤(ks.map (sz ps)).sum;omega
     ·cases h
    ·split at h
     ·rename_i hc
      cases h;refine⟨⟨hk,h0,k0.2.1,k0.2.2,⟨by simp,by simp⟩,(by intro e;cases e),(by intro e;cases e),λ_ k hk'=>?_,(by intro e;cases e),(by intro e;cases e),(by rintro(e|e|e|e)<;>cases e)⟩,rfl⟩;have:=List.all_eq_true.1 hc k hk'
      simpa using this
     ·cases h
  ·rw[if_neg e2]at h
   by_cases e3:n.op=qw
   ·rw[if_pos e3]at h
    split at h
    ·cases h
    ·split at h
     ·cases h
     ·cases h
      exact⟨⟨hk,h0,k0.2.1,k0.2.2,⟨by simp,by simp⟩,(by intro e;cases e),(by intro e;cases e),(by intro e;cases e),λ_=>⟨hs.snap e3,rfl⟩,(by intro e;cases e),(by rintro(e|e|e|e)<;>cases e)⟩,rfl⟩
   ·rw[if_neg e3]at h
    have h1:ks.length=1:=hs.one ⟨λe=>e2 (.inl e),λe=>e2 (.inr e),e3⟩;unfold qN at h
    split at h
    ·split at h
     ·cases h
     ·split at h
      ·cases h
      ·cases h
       exact⟨⟨hk,h0,k0.2.1,k0.2.2,⟨by simp,by simp⟩,(by intro e;cases e),(by intro e;cases e),(by intro e;cases e),(by intro e;cases e),λ_=>rfl,λ_=>h1⟩,rfl⟩
    ·split at h
     ·split at h
      ·cases h
      ·split at h
       ·cases h
       ·rename_i hd
        have hD:=zbi (sz ps (ks.getD 0 0));generalize dI (sz ps (ks.getD 0 0))=D at h hd hD;cases h;exact⟨⟨hk,h0,Yf hd,hD,⟨by simp,by simp⟩,(by intro e;cases e),(by intro e;cases e),(by intro e;cases e),(by intro e;cases e),(by intro e;cases e),λ_=>h1⟩,rfl⟩
     ·split at h
      ·cases h
      ·split at h
       ·cases h
       ·rename_i hd
        have hD:=zbv (sz ps (ks.getD 0 0));generalize dV (sz ps (ks.getD 0 0))=D at h hd hD;cases h;exact⟨⟨hk,h0,Yf hd,Nat.le_trans hD (by decide),⟨by simp,by simp⟩,(by intro e;cases e),(by intro e;cases e),(by intro e;cases e),(by intro e;cases e),(by intro e;cases e),λ_=>h1⟩,rfl⟩
theorem gh{ns:xv}{ps:List Pt}{n:Nd}{ks:List Nat}{p:Pt}(hs:ZX n ks.length)(h:jU ns ps n ks= .ok p):ks.length≤4:=by
 by_cases h1:n.op=qZ∨n.op=jq
 ·unfold jU at h
  rw[if_neg (by rcases h1 with e|e<;>rw[e]<;>decide),if_pos h1]at h;unfold yN at h;by_cases q:2≤ks.length∧ks.length≤4
  ·exact q.2
  ·rw[if_pos q]at h
   cases h
 ·by_cases h2:n.op=qw
  ·rw[hs.snap h2];decide
  ·rw[hs.one ⟨λe=>h1 (.inl e),λe=>h1 (.inr e),h2⟩];decide
theorem KR{ns:xv}{ps:List Pt}{n:Nd}{ks:List Nat}{p:Pt}(hs:ZX n ks.length)(k0:yW ps (ks.getD 0 0))(h:jU ns ps n ks= .ok p):p.first≤8192:=by
 unfold jU at h;by_cases e1:n.op=jh
 ·rw[if_pos e1]at h
  obtain⟨hl1,hl2,hl3⟩:=hs.lin e1
  split at h
  ·rename_i hc
   cases h;show Int.toNat _≤8192;have:=k0.2.2;omega
  ·cases h
 ·rw[if_neg e1]at h
  unfold yN qN at h
  repeat' split at h
  all_goals first
   |cases h;done
   |(cases h;exact Nat.zero_le _)
theorem X5{ns:xv}{ps:List Pt}{n:Nd}{ks:List Nat}{p:Pt}(hn:yz ns ps)(hk:∀k ∈ ks,yW ps k)(hs:ZX n ks.length)(h:jU ns ps n ks= .ok p):Da ps p∧p.kids=ks:=by
 obtain⟨h1,h2⟩:=gx hn hk hs h;exact⟨⟨h1,by rw[h2];exact gh hs h,KR hs (hk _ (ZR (by have:=hs.pos;omega))) h⟩,h2⟩
theorem XV{f:List Pt→Nd→Except Er (Nat×List Pt)}(l:List Nd):∀ {ps:List Pt} {ks:List Nat} {p':List Pt},(∀qs x,x ∈ l→∀k p1,f (ps++qs) x= .ok (k,p1)→∃rs,p1=ps++qs++rs∧yW p1 k∧Grown' (ps++qs) rs)→jy f ps l= .ok (ks,p')→∃rs,p'=ps++rs∧(∀k ∈ ks,yW p' k)∧Grown' ps rs∧ks.length=l.length:=by
 induction l with
 |nil =>
  intro ps ks p' _ h;cases h;exact⟨[],by simp,(λk hk=>by cases hk),trivial,rfl⟩
 |cons x l ih =>
  intro ps ks p' hf h;unfold jy at h;cases h1:f ps x with
  |error e=>rw[h1]at h;cases h
  |ok r =>
   obtain⟨k,p1⟩:=r;rw[h1]at h;simp only at h;cases h2:jy f p1 l with
   |error e=>rw[h2]at h;cases h
   |ok r2 =>
    obtain⟨ks2,p2⟩:=r2;rw[h2]at h;cases h;obtain⟨rs,e1,hk1,hg1⟩:=hf [] x List.mem_cons_self k p1 (by simpa using h1);simp only[List.append_nil]at e1 hg1;subst e1
    obtain⟨rs2,e2,hk2,hg2,hl⟩:=ih (ps:=ps++rs) (λqs y hy k p1 hr=>by
     have:=hf (rs++qs) y (List.mem_cons_of_mem _ hy) k p1 (by simpa using hr)
     simpa using this) h2
    subst e2;refine⟨rs++rs2,by simp,λj hj=>?_,hg1.app (by simpa using hg2),by simp[hl]⟩;rcases List.mem_cons.1 hj with rfl|hj'
    ·exact hk1.more rs2
    ·exact hk2 j hj'
inductive Fv:Nat→Nd→Prop where
 |use (d:Nat) (n:Nd):n.op=j8→Fv (d+1) n
 |mk (d:Nat) (n:Nd):n.op≠j8→ZX n (jo n).length→(∀x ∈ jo n,Fv d x)→Fv (d+1) n
theorem J2{ns:xv}(d:Nat):∀ {ps:List Pt} {n:Nd} {k:Nat} {p':List Pt},yz ns ps→Fv d n→jN ns d ps n= .ok (k,p')→∃rs,p'=ps++rs∧yW p' k∧Grown' ps rs:=by
 induction d with
 |zero=>intro ps n k p' _ _ h;cases h
 |succ d ih =>
  intro ps n k p' hn hx h;unfold jN at h;cases hx with
  |use _ _ e =>
   rw[if_pos e]at h;cases hk:jj ns n [zc,zp]with
   |error e=>rw[hk]at h;cases h
   |ok m =>
    rw[hk]at h;cases h;exact⟨[],by simp,Qg hn hk,trivial⟩
  |mk _ _ e hs hl =>
   rw[if_neg e]at h;cases hc:jy (jN ns d) ps (jo n)with
   |error e=>rw[hc]at h;cases h
   |ok r =>
    obtain⟨ks,p1⟩:=r;rw[hc]at h;simp only at h
    obtain⟨rs,e1,hk1,hg1,hlen⟩:=XV (jo n) (λqs x hx k p1 hr=>by
     obtain⟨rs,e,h1,h2⟩:=ih (hn.more qs) (hl x hx) hr
     exact⟨rs,e,h1,h2⟩) hc
    subst e1
    split at h
    ·cases h
    ·cases hp:jU ns (ps++rs) n ks with
     |error e=>rw[hp]at h;cases h
     |ok p =>
      rw[hp]at h;cases h;obtain⟨hp1,hp2⟩:=X5 (hn.more rs) hk1 (by rw[hlen];exact hs) hp;refine⟨rs++ [p],by simp,⟨by simp,?_⟩,hg1.app ⟨hp1,trivial⟩⟩;unfold sz;rw[KV];exact⟨hp1.lo,hp1.hi⟩
end
section
open Go.ChangeShapes Go.WideShapes Go.ChangeAt Go.RowKit
theorem zU{a b:Bool}(h:a=b):Ending.returned (.bool a)= .returned (.bool b):=by rw[h]
theorem Yy(c:UInt8)(k:Nat)(hk:k<256):(c==UInt8.ofNat k)=decide ((c.toNat:Int)=(k:Int)):=by
 rw[Bool.eq_iff_iff];simp only[beq_iff_eq,decide_eq_true_eq];constructor
 ·rintro rfl;simp;omega
 ·intro h
  apply UInt8.toNat_inj.1;simp;omega
theorem VB(c:UInt8):ja c=(decide ((c.toNat:Int)=9)||decide ((c.toNat:Int)=10)||decide ((c.toNat:Int)=13)||decide ((c.toNat:Int)=32)):=by
 have h1:=Yy c 9 (by decide);have h2:=Yy c 10 (by decide);have h3:=Yy c 13 (by decide);have h4:=Yy c 32 (by decide);unfold ja;exact congr (congrArg or (congr (congrArg or (congr (congrArg or h1) h2)) h3)) h4
theorem JO(c:UInt8):qU c= !decide ((c.toNat:Int)=10):=congrArg not (Yy c 10 (by decide))
theorem J5(c:UInt8):zm c=(decide (48≤(c.toNat:Int))&&decide ((c.toNat:Int)≤57)):=by
 unfold zm;congr 1<;>exact decide_eq_decide.2 (by omega)
theorem KT(c:UInt8):zP c=(decide (97≤(c.toNat:Int))&&decide ((c.toNat:Int)≤122)):=by
 unfold zP;congr 1<;>exact decide_eq_decide.2 (by omega)
theorem Vy(c:UInt8):vn c=(zP c||decide ((c.toNat:Int)=95)):=by
 unfold vn;exact congrArg (or (zP c)) (Yy c 95 (by decide))
theorem ko(c:UInt8):zw c=(zm c||(decide (97≤(c.toNat:Int))&&decide ((c.toNat:Int)≤102))):=by
 unfold zw;congr 2<;>exact decide_eq_decide.2 (by omega)
def ZM(f:Nat)(p:UInt8→Bool):Prop:=∀(c:UInt8) (w:World),Calls Tryz.prog f #[.int .u8 (c.toNat:Int)] w λe w'=>e= .returned (.bool (p c))∧w'=w
theorem kb:ZM 97 ja:=by
 intro c w;go_enter Tryz.func97,Tryz.ntmps97
 go_wp2
 all_goals
  go_ret
  refine⟨zU ?_,rfl⟩;rw[VB,Bool.eq_iff_iff];simp
  try omega
theorem kY:ZM 99 qU:=by
 intro c w;go_enter Tryz.func99,Tryz.ntmps99
 go_wp2
 all_goals
  go_ret
  refine⟨zU ?_,rfl⟩;rw[JO,Bool.eq_iff_iff];simp
  try omega
theorem qh:ZM 102 zm:=by
 intro c w;go_enter Tryz.func102,Tryz.ntmps102
 go_wp2
 all_goals
  go_ret
  refine⟨zU ?_,rfl⟩;rw[J5,Bool.eq_iff_iff];simp
  try omega
theorem qr:ZM 100 zP:=by
 intro c w;go_enter Tryz.func100,Tryz.ntmps100
 go_wp2
 all_goals
  go_ret
  refine⟨zU ?_,rfl⟩;rw[KT,Bool.eq_iff_iff];simp
  try omega
theorem yt:ZM 105 vn:=by
 intro c w;rw[Vy];have hs:=qr c;cases e:zP c
 all_goals
  rw[e]at hs;clear e;go_enter Tryz.func105,Tryz.ntmps105
  go_wp2_with (go_at_call 100;refine(hs _).mono ?_;rintro e w' ⟨rfl,rfl⟩)
  all_goals
   go_ret
   refine⟨zU ?_,rfl⟩;rw[Bool.eq_iff_iff];simp
   try omega
theorem uc:ZM 127 zN:=by
 intro c w;unfold zN;have hs:=yt c;have hf:=qh c;generalize zm c=b at hf ⊢;cases e:vn c
 all_goals
  rw[e]at hs;clear e;go_enter Tryz.func127,Tryz.ntmps127
  go_wp2_with (first
   |(go_at_call 105;refine(hs _).mono ?_;rintro e w' ⟨rfl,rfl⟩)
   |(go_at_call 102;refine(hf _).mono ?_;rintro e w' ⟨rfl,rfl⟩))
  all_goals
   go_ret
   exact⟨zU (by simp),rfl⟩
theorem gl:ZM 129 zw:=by
 intro c w;rw[ko];have hf:=qh c;cases e:zm c
 all_goals
  rw[e]at hf;clear e;go_enter Tryz.func129,Tryz.ntmps129
  go_wp2_with (go_at_call 102;refine(hf _).mono ?_;rintro e w' ⟨rfl,rfl⟩)
  all_goals
   go_ret
   refine⟨zU ?_,rfl⟩;rw[Bool.eq_iff_iff];simp
   try omega
abbrev pt(p:Nat):Value:= .pointer (some ⟨p,0,none⟩)
def bs(l:List UInt8):ByteArray:=⟨l.toArray⟩
theorem zi(l:List UInt8):(bs l).size=l.length:=by simp[bs,ByteArray.size]
theorem zH(l:List UInt8)(k:Nat)(h:k<(bs l).size):(bs l)[k]'h=l[k]'(by rw[zi]at h;exact h):=by simp[bs,ByteArray.getElem_eq_getElem_data]
theorem qK(l:List UInt8)(a b:Nat):(bs l).extract a b=bs ((l.drop a).take (b-a)):=ByteArray.extract_mk l a b
structure qW (w w':World) (P j:Nat):Prop where
 has:ze w' P 3 #[.int .i64 (j:Nat)]
 size:w'.heap.size=w.heap.size
 grown:w.grownBy w' (some P)
theorem qW.other{w w':World}{P j g t:Nat}{cs:Array Value}(h:qW w w' P j)(hg:ze w g t cs)(hne:g≠P):ze w' g t cs:=
 (h.grown.block g hg.lt (λe=>hne (by injection e))).trans hg
theorem qW.below{w w':World}{P j B:Nat}(h:qW w w' P j)(hB:B≤P)(hw:B≤w.heap.size):Below B w w':=
 ⟨h.grown.os,h.grown.tape,h.grown.output,h.grown.size,λk hk=>h.grown.block k (by omega) (λe=>by injection e;omega)⟩
theorem qW.refl{w:World}{P j:Nat}(h:ze w P 3 #[.int .i64 (j:Nat)]):qW w w P j:=⟨h,rfl,YP _ _⟩
theorem qW.drewN{w w':World}{P j:Nat}(h:qW w w' P j)(m:Nat):qW w (w'.drewN m) P j:=⟨h.has.drewN m,h.size,⟨h.grown.os,h.grown.tape,h.grown.output,h.grown.size,h.grown.block⟩⟩
theorem qW.set{w w':World}{P j:Nat}(h:qW w w' P j)(k:Nat):qW w (w'.setCell ⟨P,0,none⟩ (.int .i64 (k:Nat))) P k:=by
 have hh:w'.heap[P]?=some (.cells #[.int .i64 (j:Nat)] 3 (0,0)):=h.has;refine⟨?_,?_,?_⟩
 ·show(w'.setCell ⟨P,0,none⟩ _).heap[P]?=_
  simp[World.setCell,Array.getElem?_modify,hh]
 ·simp[World.setCell,h.size]
 ·refine⟨h.grown.os,h.grown.tape,h.grown.output,by simp[World.setCell,h.grown.size],λg hg hne=>?_⟩
  rw[←h.grown.block g hg hne];exact Below.heap_setCell w' ⟨P,0,none⟩ _ g (λe=>hne (by rw[e]))
theorem qW.trans{w w' w'':World}{P j k:Nat}(h:qW w w' P j)(h':qW w' w'' P k):qW w w'' P k:=
 ⟨h'.has,h'.size.trans h.size,⟨h'.grown.os.trans h.grown.os,h'.grown.tape.trans h.grown.tape,h'.grown.output.trans h.grown.output,by rw[h'.size,h.size];exact Nat.le_refl _,λg hg hne=>(h'.grown.block g (by rw[h.size];exact hg) hne).trans (h.grown.block g hg hne)⟩⟩
def xZ(w:World)(P:Nat)(l:List UInt8)(i n:Nat)(e:Ending)(w':World):Prop:=e= .returned (.string (bs ((l.drop i).take n)))∧qW w w' P (i+n)
theorem xp{p:UInt8→Bool}{l:List UInt8}{i k:Nat}(hk:k≤zE p (l.drop i))(h:i+k<l.length):k<zE p (l.drop i)↔p (l[i+k])=true:=by
 induction k generalizing i with
 |zero =>
  rw[List.drop_eq_getElem_cons (by omega),qR];simp only[Nat.add_zero]
  split<;>simp_all
 |succ k ih =>
  rw[List.drop_eq_getElem_cons (by omega),qR]at hk ⊢
  split at hk
  ·rename_i hp
   rw[if_pos hp];have:=ih (i:=i+1) (by omega) (by omega);have e:l[i+(k+1)]=l[i+1+k]:=by congr 1;omega
   rw[e];constructor
   ·intro hh;exact this.1 (by omega)
   ·intro hh;have:=this.2 hh;omega
  ·omega
theorem yY{p:UInt8→Bool}{l:List UInt8}{i k:Nat}(hk:k≤zE p (l.drop i))(h:¬i+k<l.length)(hi:i≤l.length):k=zE p (l.drop i):=by
 have:=j5 p (l.drop i);rw[List.length_drop]at this;omega
theorem yh{p:UInt8→Bool}{l:List UInt8}{i k:Nat}(hk:k≤zE p (l.drop i))(h:i+k<l.length)(hp:p (l[i+k])=false):k=zE p (l.drop i):=by
 have:=(xp hk h)
 rw[hp]at this;simp at this;omega
theorem vN{w wr:World}{P i k J n:Nat}{l:List UInt8}(hJ:J=i+k)(hn:k=n)(hm:qW w wr P (i+k)):xZ w P l i n (.returned (.string ((bs l).extract i J))) wr:=by
 subst hJ hn;refine⟨?_,hm⟩;rw[qK,Nat.add_sub_cancel_left]
theorem xf{w wr:World}{P i k J:Nat}(hJ:J=i+k)(hm:qW w wr P (i+k)):qW w (wr.setCell ⟨P,0,none⟩ (.int .i64 ((J:Int)+1))) P (i+(k+1)):=by
 have:=hm.set (i+(k+1));rw[show((i+(k+1):Nat):Int)=(J:Int)+1 by omega]at this;exact this
def atP(wr:World)(P:Nat):Nat:=match wr.cell? ⟨P,0,none⟩with |some (.int _ z)=>z.toNat|_=>0
theorem YC{w wr:World}{P j:Nat}(hm:qW w wr P j):atP wr P=j:=by
 have :wr.cell? ⟨P,0,none⟩=some (.int .i64 (j:Nat)):=hm.has.cell 0;simp[atP,this]
theorem xT{w wr:World}{P i k J:Nat}{l:List UInt8}(hJ:J=i+k)(hm:qW w wr P (i+k))(h:J≤2000)(hlt:i+k<l.length)(hl:l.length≤2000):2000-atP (wr.setCell ⟨P,0,none⟩ (.int .i64 ((J:Int)+1))) P<2000-atP wr P:=by
 rw[YC hm,YC (xf hJ hm)];omega
theorem Vc{w:World}{P Q S i:Nat}(l:List UInt8)(hP:ze w P 3 #[.int .i64 (i:Nat)])(hQ:ze w Q 146 #[pt P])(hS:ze w S 9 #[.string (bs l)])(hQP:Q≠P)(hSP:S≠P)(hi:i≤l.length)(hl:l.length≤2000):
 Calls Tryz.prog 125 #[.func (.func 97) #[] #[],pt Q,pt S] w (xZ w P l i (zE ja (l.drop i))):=by
 have hsz:=zi l;have p0:w.cell? ⟨P,0,none⟩=some (.int .i64 (i:Nat)):=hP.cell 0;have q0:w.cell? ⟨Q,0,none⟩=some (pt P):=hQ.cell 0;have hi2:i≤2000:=by omega
 have HS:Hid ((bs l).size=l.length):=hsz;clear hsz;go_enter Tryz.func125,Tryz.ntmps125
 go_wp2
 go_loopw [] (λwr=>∃k:Nat,k≤zE ja (l.drop i)∧i+k≤l.length∧qW w wr P (i+k)) (λwr=>2000-atP wr P)
 case atStart=>exact⟨0,Nat.zero_le _,by omega,qW.refl hP⟩
 case round =>
  obtain⟨k,hk,hkl,hm⟩:=hrel;have p1:wr.cell? ⟨P,0,none⟩=some (.int .i64 ((i+k:Nat):Int)):=hm.has.cell 0;have q1:wr.cell? ⟨Q,0,none⟩=some (pt P):=(hm.other hQ hQP).cell 0;have s1:wr.cell? ⟨S,0,none⟩=some (.string (bs l)):=(hm.other hS hSP).cell 0;have f1:wr.frozen? ⟨P,0,none⟩=false:=hm.has.free 0
  obtain⟨J,hJ⟩:∃J,J=i+k:=⟨_,rfl⟩
  rw[←hJ]at p1;have HJ:Hid (J=i+k):=hJ;clear hJ p0 q0;have hJ2:J≤2000:=by have:=HJ.out;omega
  by_cases hlt:i+k<l.length
  ·have h1:J<(bs l).size:=by rw[HS.out,HJ.out];exact hlt
   have h2:((J:Nat):Int)<((bs l).size:Int):=by omega
   have hget:(bs l)[J]'h1=l[i+k]:=by rw[zH];simp only[HJ.out]
   have ht:=λW=>kb ((bs l)[J]'h1) W
   cases hc:ja (l[i+k])
   ·have hb:ja ((bs l)[J]'h1)=false:=by rw[hget];exact hc
    rw[hb]at ht;have hn:=yh hk hlt hc;have HN:Hid (k=zE ja (l.drop i)):=hn;clear hn hb hget hc;have b1:((i:Nat):Int)≤((J:Nat):Int):=by have:=HJ.out;omega
    have b2:((J:Nat):Int)≤((bs l).size:Int):=by omega
    go_wp2_with fail
    go_quiet ((go_at_call 97;exact Calls.quiet_of_same (ht _)))
    go_wp2
    go_quiet (fail)
    go_wp2
    go_ret
    exact vN HJ.out HN.out ((hm.drewN _).drewN _)
   ·have hb:ja ((bs l)[J]'h1)=true:=by rw[hget];exact hc
    rw[hb]at ht;have hn:=(xp hk hlt).2 hc;clear hb hget hc
    go_wp2_with fail
    go_quiet ((go_at_call 97;exact Calls.quiet_of_same (ht _)))
    go_wp2
    go_roundw
    case rel=>exact⟨k+1,hn,by omega,xf HJ.out (hm.drewN _)⟩
    case measure=>exact xT HJ.out (hm.drewN _) hJ2 hlt hl
  ·have h1:decide (J<(bs l).size)=false:=by rw[decide_eq_false_iff_not,HS.out,HJ.out];omega
   have h2:decide (((J:Nat):Int)<((bs l).size:Int))=false:=by rw[decide_eq_false_iff_not,HS.out,HJ.out];omega
   have hn:=yY hk hlt hi;have HN:Hid (k=zE ja (l.drop i)):=hn;have b1:((i:Nat):Int)≤((J:Nat):Int):=by have:=HJ.out;omega
   have b2:((J:Nat):Int)≤((bs l).size:Int):=by rw[HS.out,HJ.out];omega
   clear hn
   go_wp2_with fail
   go_quiet (fail)
   go_wp2
   go_quiet (fail)
   go_wp2
   go_ret
   exact vN HJ.out HN.out ((hm.drewN _).drewN _)
theorem gi{w:World}{P Q S i:Nat}(l:List UInt8)(hP:ze w P 3 #[.int .i64 (i:Nat)])(hQ:ze w Q 146 #[pt P])(hS:ze w S 9 #[.string (bs l)])(hQP:Q≠P)(hSP:S≠P)(hi:i≤l.length)(hl:l.length≤2000):
 Calls Tryz.prog 125 #[.func (.func 99) #[] #[],pt Q,pt S] w (xZ w P l i (zE qU (l.drop i))):=by
 have hsz:=zi l;have p0:w.cell? ⟨P,0,none⟩=some (.int .i64 (i:Nat)):=hP.cell 0;have q0:w.cell? ⟨Q,0,none⟩=some (pt P):=hQ.cell 0;have hi2:i≤2000:=by omega
 have HS:Hid ((bs l).size=l.length):=hsz;clear hsz;go_enter Tryz.func125,Tryz.ntmps125
 go_wp2
 go_loopw [] (λwr=>∃k:Nat,k≤zE qU (l.drop i)∧i+k≤l.length∧qW w wr P (i+k)) (λwr=>2000-atP wr P)
 case atStart=>exact⟨0,Nat.zero_le _,by omega,qW.refl hP⟩
 case round =>
  obtain⟨k,hk,hkl,hm⟩:=hrel;have p1:wr.cell? ⟨P,0,none⟩=some (.int .i64 ((i+k:Nat):Int)):=hm.has.cell 0;have q1:wr.cell? ⟨Q,0,none⟩=some (pt P):=(hm.other hQ hQP).cell 0;have s1:wr.cell? ⟨S,0,none⟩=some (.string (bs l)):=(hm.other hS hSP).cell 0;have f1:wr.frozen? ⟨P,0,none⟩=false:=hm.has.free 0
  obtain⟨J,hJ⟩:∃J,J=i+k:=⟨_,rfl⟩
  rw[←hJ]at p1;have HJ:Hid (J=i+k):=hJ;clear hJ p0 q0;have hJ2:J≤2000:=by have:=HJ.out;omega
  by_cases hlt:i+k<l.length
  ·have h1:J<(bs l).size:=by rw[HS.out,HJ.out];exact hlt
   have h2:((J:Nat):Int)<((bs l).size:Int):=by omega
   have hget:(bs l)[J]'h1=l[i+k]:=by rw[zH];simp only[HJ.out]
   have ht:=λW=>kY ((bs l)[J]'h1) W
   cases hc:qU (l[i+k])
   ·have hb:qU ((bs l)[J]'h1)=false:=by rw[hget];exact hc
    rw[hb]at ht;have hn:=yh hk hlt hc;have HN:Hid (k=zE qU (l.drop i)):=hn;clear hn hb hget hc;have b1:((i:Nat):Int)≤((J:Nat):Int):=by have:=HJ.out;omega
    have b2:((J:Nat):Int)≤((bs l).size:Int):=by omega
    go_wp2_with fail
    go_quiet ((go_at_call 99;exact Calls.quiet_of_same (ht _)))
    go_wp2
    go_quiet (fail)
    go_wp2
    go_ret
    exact vN HJ.out HN.out ((hm.drewN _).drewN _)
   ·have hb:qU ((bs l)[J]'h1)=true:=by rw[hget];exact hc
    rw[hb]at ht;have hn:=(xp hk hlt).2 hc;clear hb hget hc
    go_wp2_with fail
    go_quiet ((go_at_call 99;exact Calls.quiet_of_same (ht _)))
    go_wp2
    go_roundw
    case rel=>exact⟨k+1,hn,by omega,xf HJ.out (hm.drewN _)⟩
    case measure=>exact xT HJ.out (hm.drewN _) hJ2 hlt hl
  ·have h1:decide (J<(bs l).size)=false:=by rw[decide_eq_false_iff_not,HS.out,HJ.out];omega
   have h2:decide (((J:Nat):Int)<((bs l).size:Int))=false:=by rw[decide_eq_false_iff_not,HS.out,HJ.out];omega
   have hn:=yY hk hlt hi;have HN:Hid (k=zE qU (l.drop i)):=hn;have b1:((i:Nat):Int)≤((J:Nat):Int):=by have:=HJ.out;omega
   have b2:((J:Nat):Int)≤((bs l).size:Int):=by rw[HS.out,HJ.out];omega
   clear hn
   go_wp2_with fail
   go_quiet (fail)
   go_wp2
   go_quiet (fail)
   go_wp2
   go_ret
   exact vN HJ.out HN.out ((hm.drewN _).drewN _)
end
section
def vJ(x:List UInt8):Bool:=x.take 2== [47,47]
theorem Yl(x:List UInt8):qJ false x=zE ja x+qJ false (x.drop (zE ja x)):=by
 induction x with
 |nil=>rfl
 |cons c t ih =>
  rw[qR];by_cases h:ja c=true
  ·rw[if_pos h,List.drop_succ_cons]
   simp only[qJ,if_pos h];omega
  ·rw[if_neg h]
   simp
theorem Dk(x:List UInt8):qJ true x=zE qU x+qJ false (x.drop (zE qU x)):=by
 induction x with
 |nil=>rfl
 |cons c t ih =>
  rw[qR];by_cases h:qU c=true
  ·have hc:(c==10)=false:=by simpa [qU]using h
   rw[if_pos h,List.drop_succ_cons];simp only[qJ,hc];simp;omega
  ·have hc:(c==10)=true:=by simpa [qU]using h
   have hc':=eq_of_beq hc;subst hc';simp[qJ,qU,ja]
theorem kc(p:UInt8→Bool)(x:List UInt8):zE p (x.drop (zE p x))=0:=by
 induction x with
 |nil=>rfl
 |cons c t ih =>
  rw[qR];by_cases h:p c=true
  ·rw[if_pos h,List.drop_succ_cons];exact ih
  ·rw[if_neg h,List.drop_zero,qR,if_neg h]
theorem Hs{x:List UInt8}(h:vJ x=true):∃t,x=47::47::t:=by
 match x,h with
 | [],h=>cases h
 | [a],h=>simp[vJ]at h
 |a::b::t,h=>simp[vJ]at h;exact⟨t,by rw[h.1,h.2]⟩
theorem Qm{x:List UInt8}(h:vJ x=true):qJ false x=zE qU x+qJ false (x.drop (zE qU x))∧2≤zE qU x:=by
 obtain⟨t,rfl⟩:=Hs h;constructor
 ·rw[←Dk]
  simp[qJ,ja]
 ·rw[qR,qR]
  simp[qU]
theorem KG{x:List UInt8}(h:zE ja x=0)(hn:vJ x=false):qJ false x=0:=by
 match x,h,hn with
 | [],_,_=>rfl
 |c::t,h,hn =>
  have hb:ja c=false:=by
   rw[qR]at h;cases e:ja c
   ·rfl
   ·rw[e]at h;simp at h
  simp only[qJ,hb]
  have :(c==47&&t.head?==some 47)=false:=by
   cases t with
   |nil=>simp
   |cons d u =>
    simp[vJ]at hn;simp;exact hn
  simp[this]
end
section
open Go.ChangeShapes Go.WideShapes Go.ChangeAt Go.RowKit
theorem uJ{f:FuncId}{args:Array Value}{w:World}{R:Ending→World→Prop}(i:Nat)(v:Value)(h:args[i]?=some v)(k:Calls Tryz.prog f args w R):Calls Tryz.prog f args w R:=k
theorem hmf(fn:Fn)(first cap:Array Value)(w:World):(Instr.makeFunc fn first cap).run Tryz.prog w= .ok (.func fn first cap) w:=rfl
theorem jb(w:World)(s:ByteArray)(P:Nat):Calls Tryz.prog 96 #[.string s,pt P] w λe w'=>e= .returned (.func (.func 125) #[] #[pt (w.heap.size+1),pt w.heap.size])∧w'=(w.alloc (.cells #[.string s] 9)).alloc (.cells #[pt P] 146):=by
 have h0:=hmf;go_enter Tryz.func96,Tryz.ntmps96
 go_wp2
 go_ret
 exact⟨rfl,rfl⟩
theorem zx(x:List UInt8):(bs x).toList=x:=ByteArray.toList_mk x
theorem Va(x:List UInt8)(w:World)(hx:x.length≤2000):Calls Tryz.prog 126 #[.string (bs x),.string ⟨#[47,47]⟩] w λe w'=>e= .returned (.bool (vJ x))∧w'=w:=by
 have hs:=zi x;by_cases h2:2≤x.length
 ·have h3:(2:Int)≤((bs x).size:Int):=by omega
  have HS:Hid ((bs x).size=x.length):=hs;clear hs;go_enter Tryz.func126,Tryz.ntmps126
  go_wp2
  go_ret
  refine⟨zU ?_,rfl⟩;rw[qK,zx];rfl
 ·have h3:¬(2:Int)≤((bs x).size:Int):=by omega
  have HS:Hid ((bs x).size=x.length):=hs;clear hs;go_enter Tryz.func126,Tryz.ntmps126
  go_wp2
  go_ret
  refine⟨zU ?_,rfl⟩;unfold vJ;rw[List.take_of_length_le (by omega)]
  cases e:(x== [47,47])
  ·rfl
  ·rw[eq_of_beq e]at h2;simp at h2
theorem KZ(x:List UInt8)(w:World)(hx:x.length≤2000):Calls Tryz.prog 98 #[.string (bs x),.string ⟨#[47,47]⟩] w λe w'=>e= .returned (.bool (vJ x))∧w'=w:=by
 go_enter Tryz.func98,Tryz.ntmps98
 go_wp2_with (go_at_call 126;refine(Va _ _ hx).mono ?_;rintro e w' ⟨rfl,rfl⟩)
 go_ret
 exact⟨rfl,rfl⟩
structure ku (w0 w:World) (P Q S j:Nat) (l:List UInt8):Prop where
 at_:ze w P 3 #[.int .i64 (j:Nat)]
 q:ze w Q 146 #[pt P]
 s:ze w S 9 #[.string (bs l)]
 qp:Q≠P
 sp:S≠P
 le:j≤l.length
 below:Below w0.heap.size w0 w
 old:w0.heap.size≤P
theorem ku.moved{w0 w w':World}{P Q S j k:Nat}{l:List UInt8}(h:ku w0 w P Q S j l)(hm:qW w w' P k)(hk:k≤l.length):ku w0 w' P Q S k l:=
 ⟨hm.has,hm.other h.q h.qp,hm.other h.s h.sp,h.qp,h.sp,hk,h.below.trans (hm.below h.old (by have:=h.below.size;omega)),h.old⟩
theorem ku.atP{w0 w:World}{P Q S j:Nat}{l:List UInt8}(h:ku w0 w P Q S j l):atP w P=j:=YC (qW.refl h.at_)
theorem xy{l:List UInt8}{p:UInt8→Bool}{j:Nat}(h:j≤l.length):j+zE p (l.drop j)≤l.length:=by
 have:=j5 p (l.drop j);rw[List.length_drop]at this;omega
theorem D4(l:List UInt8)(j:Nat):(bs l).extract j (bs l).size=bs (l.drop j):=by
 rw[qK,zi,List.take_of_length_le (by rw[List.length_drop];omega)]
def Qd(w wr:World)(P Q S i j:Nat)(l:List UInt8):Prop:=ku w wr P Q S j l∧i≤j∧i+qJ false (l.drop i)=j+qJ false (l.drop j)∧zE ja (l.drop j)=0
theorem Qd.first{w W0 wr:World}{P Q S i:Nat}{l:List UInt8}(h:ku w W0 P Q S i l)(hm:qW W0 wr P (i+zE ja (l.drop i))):Qd w wr P Q S i (i+zE ja (l.drop i)) l:=by
 refine⟨h.moved hm (xy h.le),by omega,?_,?_⟩
 ·have:=Yl (l.drop i)
  rw[List.drop_drop]at this;omega
 ·rw[←List.drop_drop]
  exact kc _ _
theorem Qd.next{w wr w1 w2:World}{P Q S i j:Nat}{l:List UInt8}(h:Qd w wr P Q S i j l)(hn:vJ (l.drop j)=true)(hm:qW wr w1 P (j+zE qU (l.drop j)))
 (hm2:qW w1 w2 P (j+zE qU (l.drop j)+zE ja (l.drop (j+zE qU (l.drop j))))):Qd w w2 P Q S i (j+zE qU (l.drop j)+zE ja (l.drop (j+zE qU (l.drop j)))) l:=by
 obtain⟨hC,h1,h2,h3⟩:=h;have hle:=xy (p:=qU) hC.le;refine⟨(hC.moved hm hle).moved hm2 (xy hle),by omega,?_,?_⟩
 ·have e1:=(Qm hn).1
  have e2:=Yl (l.drop (j+zE qU (l.drop j)));rw[List.drop_drop]at e1 e2;omega
 ·rw[←List.drop_drop]
  exact kc _ _
theorem XT(w:World)(l:List UInt8)(i:Nat)(hi:i≤l.length)(hl:l.length≤2000):Calls Tryz.prog 65 #[.string (bs l),.int .i64 (i:Nat)] w λe w'=>e= .returned (.int .i64 ((i+qJ false (l.drop i):Nat):Int))∧Below w.heap.size w w':=by
 have hsz:=zi l;have HS:Hid ((bs l).size=l.length):=hsz;clear hsz
 have hC:ku w (((w.alloc (.cells #[.int .i64 (i:Nat)] 3)).alloc (.cells #[.string (bs l)] 9)).alloc (.cells #[pt w.heap.size] 146)) w.heap.size (w.heap.size+1+1) (w.heap.size+1) i l:=
  ⟨((ze.new _ _ _).alloc _).alloc _,ze.new_at (by simp),(ze.new_at (by simp)).alloc _,by omega,by omega,hi,(((Below.refl _ _).alloc (Nat.le_refl _) _).alloc (by simp) _).alloc (by simp;omega) _,Nat.le_refl _⟩
 have ht:=Vc l hC.at_ hC.q hC.s hC.qp hC.sp hC.le hl;go_enter Tryz.func65,Tryz.ntmps65
 go_wp2_with (first
  |(go_at_call 96;refine(jb _ _ _).mono ?_;rintro e w' ⟨rfl,rfl⟩)
  |(go_at_call 125;refine ht.mono ?_;rintro e w1 ⟨rfl,hm⟩))
 have hA:=Qd.first hC hm;clear hm hC ht
 go_loopw [] (λwr=>∃j,Qd w wr w.heap.size (w.heap.size+1+1) (w.heap.size+1) i j l) (λwr=>2000-atP wr w.heap.size)
 case atStart=>exact⟨_,hA⟩
 case round =>
  clear hA;obtain⟨j,hA⟩:=hrel;have hC:=hA.1;have p1:wr.cell? ⟨w.heap.size,0,none⟩=some (.int .i64 (j:Nat)):=hC.at_.cell 0;have hj2:j≤2000:=by have:=hC.le;omega
  have b2:((j:Nat):Int)≤((bs l).size:Int):=by rw[HS.out];have:=hC.le;omega
  have hp:=λW=>KZ (l.drop j) W (by rw[List.length_drop];omega)
  rw[←D4]at hp;cases hn:vJ (l.drop j)
  ·rw[hn]at hp
   have hz:=KG hA.2.2.2 hn;have HE:Hid (i+qJ false (l.drop i)=j):=by have:=hA.2.2.1;rw[hz]at this;exact this
   have hB:=hC.below;clear hz hn hA hC
   go_wp2_with (go_at_call 98;refine(hp _).mono ?_;rintro e w' ⟨rfl,rfl⟩)
   go_ret
   exact⟨by rw[HE.out];rfl,hB⟩
  ·rw[hn]at hp
   have hn2:=(Qm hn).2;have ht1:=gi l hC.at_ hC.q hC.s hC.qp hC.sp hC.le hl
   obtain⟨J,hJ⟩:∃J,J=j+zE qU (l.drop j):=⟨_,rfl⟩
   have HJ:Hid (J=j+zE qU (l.drop j)):=hJ;clear hJ;have HN:Hid (vJ (l.drop j)=true):=hn;clear hn
   go_wp2_with (first
    |(go_at_call 98;refine(hp _).mono ?_;rintro e w' ⟨rfl,rfl⟩)
    |(go_at_call 125
      refine uJ 0 (.func (.func 99) #[] #[]) rfl ?_;refine ht1.mono ?_
      rintro e w1 ⟨rfl,hm1⟩)
    |(go_at_call 125
      refine uJ 0 (.func (.func 97) #[] #[]) rfl ?_;have hle:=xy (p:=qU) hC.le;have hC1:=hC.moved hm1 hle;refine(Vc l hC1.at_ hC1.q hC1.s hC1.qp hC1.sp hC1.le hl).mono ?_
      rintro e w2 ⟨rfl,hm2⟩))
   go_roundw
   case rel=>exact⟨_,hA.next HN.out hm1 hm2⟩
   case measure =>
    rw[hC.atP,YC hm2];have:=xy (p:=ja) (xy (p:=qU) hC.le);omega
theorem KK(w:World)(x:List UInt8):∃W1 cap,(convert 9 45 (.string (bs x))).run Tryz.prog w= .ok (.slice (some ⟨w.heap.size,0,none⟩) (bs x).size cap) W1∧(∀j (hj:j<x.length),W1.cell? ⟨w.heap.size,j,none⟩=some (.int .u8 (x[j].toNat:Int)))∧Below w.heap.size w W1:=by
 refine⟨_,_,run_bytes_of_string w 9 45 5 (bs x) Tryz.underlying9 Tryz.underlying45 Tryz.underlying5,?_,?_⟩
 ·intro j hj
  have hh:=heap_alloc_new w.drew (.cells (bytesRow (bs x) (grownCap w (bs x).size 0 5)) 5 ((bytesRow (bs x) (grownCap w (bs x).size 0 5)).size,(bytesRow (bs x) (grownCap w (bs x).size 0 5)).size+1));refine(cell_of_row _ _ _ _ _ _ hh).trans ?_;unfold bytesRow;rw[Array.getElem?_append_left (by simp[bs];exact hj)];simp[bs,hj]
 ·exact((⟨rfl,rfl,rfl,Nat.le_refl _,λ_ _=>rfl⟩:Below w.heap.size w w.drew)).alloc (Nat.le_refl _) _
theorem Dq(x:List UInt8)(k:Nat)(h:k<x.length):val (x.take (k+1))=10*val (x.take k)+(x[k].toNat-48):=by
 rw[List.take_succ_eq_append_getElem h,QA]
theorem Hu(x:List UInt8)(w:World)(h0:x≠ [])(h9:x.length≤9)(hf:∀c ∈ x,zm c=true):
 Calls Tryz.prog 146 #[.string (bs x)] w λe w'=>e= .returned (.tuple #[.int .i64 (val x:Nat),.nilIface])∧Below w.heap.size w w':=by
 have hsz:=zi x;have hpos:0<x.length:=List.length_pos_iff.2 h0;obtain⟨W1,cap,hconv,hcell,hbel⟩:=KK w x
 have hfig:∀j (hj:j<x.length),48≤((x[j].toNat:Nat):Int)∧((x[j].toNat:Nat):Int)≤57:=by
  intro j hj;have:=hf x[j] (List.getElem_mem hj);simp[zm]at this;omega
 have hx0:(0:Nat)<(bs x).size:=by omega
 have hg0:(bs x)[0]'hx0=x[0]:=zH x 0 hx0;have hf0:48≤((((bs x)[0]'hx0).toNat:Nat):Int)∧((((bs x)[0]'hx0).toNat:Nat):Int)≤57:=by rw[hg0];exact hfig 0 hpos
 have z1:(((((bs x)[0]'hx0).toNat:Nat):Int)==45)=false:=by simp;omega
 have z2:(((((bs x)[0]'hx0).toNat:Nat):Int)==43)=false:=by simp;omega
 have z5:¬((((bs x)[0]'hx0).toNat:Nat):Int)=45:=by omega
 have z3:(0:Int)<((bs x).size:Int):=by omega
 have z4:((bs x).size:Int)<19:=by omega
 have HS:Hid ((bs x).size=x.length):=hsz;clear hsz hg0 hf0;go_enter Tryz.func146,Tryz.ntmps146
 go_wp2
 go_loop [6,49] (λn i=>∃k:Nat,k≤x.length∧i= .int .i64 (k:Nat)∧n= .int .i64 (val (x.take k):Nat)) (λ_ i=>x.length-(intOf i).toNat)
 case atStart=>exact⟨0,Nat.zero_le _,rfl,rfl⟩
 case round =>
  obtain⟨k,hk,rfl,rfl⟩:=hrel
  have hvb:val (x.take k)<1000000000:=by
   have h1:=QY (x.take k) (λc hc=>hf c (List.mem_of_mem_take hc));have h2:10 ^ (x.take k).length≤10 ^ 9:=Nat.pow_le_pow_right (by decide) (by rw[List.length_take];omega);exact Nat.lt_of_lt_of_le h1 h2
  obtain⟨V,hV⟩:∃V,V=val (x.take k):=⟨_,rfl⟩
  rw[←hV]at hvb ⊢;by_cases hlt:k<x.length
  ·have hc:=hcell k hlt
   have hfk:=hfig k hlt;have hvt:=Dq x k hlt;rw[←hV]at hvt;have e1:((x[k].toNat-48:Nat):Int)=(x[k].toNat:Int)-48:=by omega
   have HV:Hid (((val (x.take (k+1)):Nat):Int)=10*(V:Int)+((x[k].toNat:Int)-48)):=by show((val (x.take (k+1)):Nat):Int)=_;rw[hvt];omega
   have hlt2:((k:Nat):Int)<((bs x).size:Int):=by rw[HS.out];omega
   clear hvt e1 hV;generalize ((x[k].toNat:Nat):Int)=z at hc hfk HV;obtain⟨g1,g2⟩:=hfk;clear hcell hfig hconv
   go_wp2
   go_round
   case rel=>exact⟨k+1,by omega,by go_num,by rw[HV.out];go_num⟩
   case measure=>simp[intOf];omega
  ·have hlt2:¬((k:Nat):Int)<((bs x).size:Int):=by rw[HS.out];omega
   have hfull:x.take k=x:=List.take_of_length_le (by omega);rw[hfull]at hV;have HV:Hid (V=val x):=hV;clear hfull hV hcell hfig hconv
   go_wp2
   go_ret2
   exact⟨by rw[HV.out];rfl,hbel⟩
theorem zaf(x:List UInt8)(w:World)(h0:x≠ [])(h9:x.length≤9)(hf:∀c ∈ x,zm c=true):
 Calls Tryz.prog 128 #[.string (bs x)] w λe w'=>e= .returned (.tuple #[.int .i64 (val x:Nat),.nilIface])∧Below w.heap.size w w':=by
 have ha:=Hu x w h0 h9 hf;go_enter Tryz.func128,Tryz.ntmps128
 go_wp2_with (go_at_call 146;refine ha.mono ?_;rintro e w' ⟨rfl,hb⟩)
 go_ret2
 exact⟨rfl,hb⟩
theorem Ym{w:World}{P Q S i:Nat}(l:List UInt8)(hP:ze w P 3 #[.int .i64 (i:Nat)])(hQ:ze w Q 146 #[pt P])(hS:ze w S 9 #[.string (bs l)])(hQP:Q≠P)(hSP:S≠P)(hi:i≤l.length)(hl:l.length≤2000):
 Calls Tryz.prog 125 #[.func (.func 127) #[] #[],pt Q,pt S] w (xZ w P l i (zE zN (l.drop i))):=by
 have hsz:=zi l;have p0:w.cell? ⟨P,0,none⟩=some (.int .i64 (i:Nat)):=hP.cell 0;have q0:w.cell? ⟨Q,0,none⟩=some (pt P):=hQ.cell 0;have hi2:i≤2000:=by omega
 have HS:Hid ((bs l).size=l.length):=hsz;clear hsz;go_enter Tryz.func125,Tryz.ntmps125
 go_wp2
 go_loopw [] (λwr=>∃k:Nat,k≤zE zN (l.drop i)∧i+k≤l.length∧qW w wr P (i+k)) (λwr=>2000-atP wr P)
 case atStart=>exact⟨0,Nat.zero_le _,by omega,qW.refl hP⟩
 case round =>
  obtain⟨k,hk,hkl,hm⟩:=hrel;have p1:wr.cell? ⟨P,0,none⟩=some (.int .i64 ((i+k:Nat):Int)):=hm.has.cell 0;have q1:wr.cell? ⟨Q,0,none⟩=some (pt P):=(hm.other hQ hQP).cell 0;have s1:wr.cell? ⟨S,0,none⟩=some (.string (bs l)):=(hm.other hS hSP).cell 0;have f1:wr.frozen? ⟨P,0,none⟩=false:=hm.has.free 0
  obtain⟨J,hJ⟩:∃J,J=i+k:=⟨_,rfl⟩
  rw[←hJ]at p1;have HJ:Hid (J=i+k):=hJ;clear hJ p0 q0;have hJ2:J≤2000:=by have:=HJ.out;omega
  by_cases hlt:i+k<l.length
  ·have h1:J<(bs l).size:=by rw[HS.out,HJ.out];exact hlt
   have h2:((J:Nat):Int)<((bs l).size:Int):=by omega
   have hget:(bs l)[J]'h1=l[i+k]:=by rw[zH];simp only[HJ.out]
   have ht:=λW=>uc ((bs l)[J]'h1) W
   cases hc:zN (l[i+k])
   ·have hb:zN ((bs l)[J]'h1)=false:=by rw[hget];exact hc
    rw[hb]at ht;have hn:=yh hk hlt hc;have HN:Hid (k=zE zN (l.drop i)):=hn;clear hn hb hget hc;have b1:((i:Nat):Int)≤((J:Nat):Int):=by have:=HJ.out;omega
    have b2:((J:Nat):Int)≤((bs l).size:Int):=by omega
    go_wp2_with fail
    go_quiet ((go_at_call 127;exact Calls.quiet_of_same (ht _)))
    go_wp2
    go_quiet (fail)
    go_wp2
    go_ret
    exact vN HJ.out HN.out ((hm.drewN _).drewN _)
   ·have hb:zN ((bs l)[J]'h1)=true:=by rw[hget];exact hc
    rw[hb]at ht;have hn:=(xp hk hlt).2 hc;clear hb hget hc
    go_wp2_with fail
    go_quiet ((go_at_call 127;exact Calls.quiet_of_same (ht _)))
    go_wp2
    go_roundw
    case rel=>exact⟨k+1,hn,by omega,xf HJ.out (hm.drewN _)⟩
    case measure=>exact xT HJ.out (hm.drewN _) hJ2 hlt hl
  ·have h1:decide (J<(bs l).size)=false:=by rw[decide_eq_false_iff_not,HS.out,HJ.out];omega
   have h2:decide (((J:Nat):Int)<((bs l).size:Int))=false:=by rw[decide_eq_false_iff_not,HS.out,HJ.out];omega
   have hn:=yY hk hlt hi;have HN:Hid (k=zE zN (l.drop i)):=hn;have b1:((i:Nat):Int)≤((J:Nat):Int):=by have:=HJ.out;omega
   have b2:((J:Nat):Int)≤((bs l).size:Int):=by rw[HS.out,HJ.out];omega
   clear hn
   go_wp2_with fail
   go_quiet (fail)
   go_wp2
   go_quiet (fail)
   go_wp2
   go_ret
   exact vN HJ.out HN.out ((hm.drewN _).drewN _)
theorem Jl{w:World}{P Q S i:Nat}(l:List UInt8)(hP:ze w P 3 #[.int .i64 (i:Nat)])(hQ:ze w Q 146 #[pt P])(hS:ze w S 9 #[.string (bs l)])(hQP:Q≠P)(hSP:S≠P)(hi:i≤l.length)(hl:l.length≤2000):
 Calls Tryz.prog 125 #[.func (.func 102) #[] #[],pt Q,pt S] w (xZ w P l i (zE zm (l.drop i))):=by
 have hsz:=zi l;have p0:w.cell? ⟨P,0,none⟩=some (.int .i64 (i:Nat)):=hP.cell 0;have q0:w.cell? ⟨Q,0,none⟩=some (pt P):=hQ.cell 0;have hi2:i≤2000:=by omega
 have HS:Hid ((bs l).size=l.length):=hsz;clear hsz;go_enter Tryz.func125,Tryz.ntmps125
 go_wp2
 go_loopw [] (λwr=>∃k:Nat,k≤zE zm (l.drop i)∧i+k≤l.length∧qW w wr P (i+k)) (λwr=>2000-atP wr P)
 case atStart=>exact⟨0,Nat.zero_le _,by omega,qW.refl hP⟩
 case round =>
  obtain⟨k,hk,hkl,hm⟩:=hrel;have p1:wr.cell? ⟨P,0,none⟩=some (.int .i64 ((i+k:Nat):Int)):=hm.has.cell 0;have q1:wr.cell? ⟨Q,0,none⟩=some (pt P):=(hm.other hQ hQP).cell 0;have s1:wr.cell? ⟨S,0,none⟩=some (.string (bs l)):=(hm.other hS hSP).cell 0;have f1:wr.frozen? ⟨P,0,none⟩=false:=hm.has.free 0
  obtain⟨J,hJ⟩:∃J,J=i+k:=⟨_,rfl⟩
  rw[←hJ]at p1;have HJ:Hid (J=i+k):=hJ;clear hJ p0 q0;have hJ2:J≤2000:=by have:=HJ.out;omega
  by_cases hlt:i+k<l.length
  ·have h1:J<(bs l).size:=by rw[HS.out,HJ.out];exact hlt
   have h2:((J:Nat):Int)<((bs l).size:Int):=by omega
   have hget:(bs l)[J]'h1=l[i+k]:=by rw[zH];simp only[HJ.out]
   have ht:=λW=>qh ((bs l)[J]'h1) W
   cases hc:zm (l[i+k])
   ·have hb:zm ((bs l)[J]'h1)=false:=by rw[hget];exact hc
    rw[hb]at ht;have hn:=yh hk hlt hc;have HN:Hid (k=zE zm (l.drop i)):=hn;clear hn hb hget hc;have b1:((i:Nat):Int)≤((J:Nat):Int):=by have:=HJ.out;omega
    have b2:((J:Nat):Int)≤((bs l).size:Int):=by omega
    go_wp2_with fail
    go_quiet ((go_at_call 102;exact Calls.quiet_of_same (ht _)))
    go_wp2
    go_quiet (fail)
    go_wp2
    go_ret
    exact vN HJ.out HN.out ((hm.drewN _).drewN _)
   ·have hb:zm ((bs l)[J]'h1)=true:=by rw[hget];exact hc
    rw[hb]at ht;have hn:=(xp hk hlt).2 hc;clear hb hget hc
    go_wp2_with fail
    go_quiet ((go_at_call 102;exact Calls.quiet_of_same (ht _)))
    go_wp2
    go_roundw
    case rel=>exact⟨k+1,hn,by omega,xf HJ.out (hm.drewN _)⟩
    case measure=>exact xT HJ.out (hm.drewN _) hJ2 hlt hl
  ·have h1:decide (J<(bs l).size)=false:=by rw[decide_eq_false_iff_not,HS.out,HJ.out];omega
   have h2:decide (((J:Nat):Int)<((bs l).size:Int))=false:=by rw[decide_eq_false_iff_not,HS.out,HJ.out];omega
   have hn:=yY hk hlt hi;have HN:Hid (k=zE zm (l.drop i)):=hn;have b1:((i:Nat):Int)≤((J:Nat):Int):=by have:=HJ.out;omega
   have b2:((J:Nat):Int)≤((bs l).size:Int):=by rw[HS.out,HJ.out];omega
   clear hn
   go_wp2_with fail
   go_quiet (fail)
   go_wp2
   go_quiet (fail)
   go_wp2
   go_ret
   exact vN HJ.out HN.out ((hm.drewN _).drewN _)
theorem J8{w:World}{P Q S i:Nat}(l:List UInt8)(hP:ze w P 3 #[.int .i64 (i:Nat)])(hQ:ze w Q 146 #[pt P])(hS:ze w S 9 #[.string (bs l)])(hQP:Q≠P)(hSP:S≠P)(hi:i≤l.length)(hl:l.length≤2000):
 Calls Tryz.prog 125 #[.func (.func 129) #[] #[],pt Q,pt S] w (xZ w P l i (zE zw (l.drop i))):=by
 have hsz:=zi l;have p0:w.cell? ⟨P,0,none⟩=some (.int .i64 (i:Nat)):=hP.cell 0;have q0:w.cell? ⟨Q,0,none⟩=some (pt P):=hQ.cell 0;have hi2:i≤2000:=by omega
 have HS:Hid ((bs l).size=l.length):=hsz;clear hsz;go_enter Tryz.func125,Tryz.ntmps125
 go_wp2
 go_loopw [] (λwr=>∃k:Nat,k≤zE zw (l.drop i)∧i+k≤l.length∧qW w wr P (i+k)) (λwr=>2000-atP wr P)
 case atStart=>exact⟨0,Nat.zero_le _,by omega,qW.refl hP⟩
 case round =>
  obtain⟨k,hk,hkl,hm⟩:=hrel;have p1:wr.cell? ⟨P,0,none⟩=some (.int .i64 ((i+k:Nat):Int)):=hm.has.cell 0;have q1:wr.cell? ⟨Q,0,none⟩=some (pt P):=(hm.other hQ hQP).cell 0;have s1:wr.cell? ⟨S,0,none⟩=some (.string (bs l)):=(hm.other hS hSP).cell 0;have f1:wr.frozen? ⟨P,0,none⟩=false:=hm.has.free 0
  obtain⟨J,hJ⟩:∃J,J=i+k:=⟨_,rfl⟩
  rw[←hJ]at p1;have HJ:Hid (J=i+k):=hJ;clear hJ p0 q0;have hJ2:J≤2000:=by have:=HJ.out;omega
  by_cases hlt:i+k<l.length
  ·have h1:J<(bs l).size:=by rw[HS.out,HJ.out];exact hlt
   have h2:((J:Nat):Int)<((bs l).size:Int):=by omega
   have hget:(bs l)[J]'h1=l[i+k]:=by rw[zH];simp only[HJ.out]
   have ht:=λW=>gl ((bs l)[J]'h1) W
   cases hc:zw (l[i+k])
   ·have hb:zw ((bs l)[J]'h1)=false:=by rw[hget];exact hc
    rw[hb]at ht;have hn:=yh hk hlt hc;have HN:Hid (k=zE zw (l.drop i)):=hn;clear hn hb hget hc;have b1:((i:Nat):Int)≤((J:Nat):Int):=by have:=HJ.out;omega
    have b2:((J:Nat):Int)≤((bs l).size:Int):=by omega
    go_wp2_with fail
    go_quiet ((go_at_call 129;exact Calls.quiet_of_same (ht _)))
    go_wp2
    go_quiet (fail)
    go_wp2
    go_ret
    exact vN HJ.out HN.out ((hm.drewN _).drewN _)
   ·have hb:zw ((bs l)[J]'h1)=true:=by rw[hget];exact hc
    rw[hb]at ht;have hn:=(xp hk hlt).2 hc;clear hb hget hc
    go_wp2_with fail
    go_quiet ((go_at_call 129;exact Calls.quiet_of_same (ht _)))
    go_wp2
    go_roundw
    case rel=>exact⟨k+1,hn,by omega,xf HJ.out (hm.drewN _)⟩
    case measure=>exact xT HJ.out (hm.drewN _) hJ2 hlt hl
  ·have h1:decide (J<(bs l).size)=false:=by rw[decide_eq_false_iff_not,HS.out,HJ.out];omega
   have h2:decide (((J:Nat):Int)<((bs l).size:Int))=false:=by rw[decide_eq_false_iff_not,HS.out,HJ.out];omega
   have hn:=yY hk hlt hi;have HN:Hid (k=zE zw (l.drop i)):=hn;have b1:((i:Nat):Int)≤((J:Nat):Int):=by have:=HJ.out;omega
   have b2:((J:Nat):Int)≤((bs l).size:Int):=by rw[HS.out,HJ.out];omega
   clear hn
   go_wp2_with fail
   go_quiet (fail)
   go_wp2
   go_quiet (fail)
   go_wp2
   go_ret
   exact vN HJ.out HN.out ((hm.drewN _).drewN _)
end
end Go.Proofs.YtebcfkigbbolaaaGreatDoor
