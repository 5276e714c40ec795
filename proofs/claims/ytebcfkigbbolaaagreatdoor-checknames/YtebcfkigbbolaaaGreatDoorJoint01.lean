import Derived.Test.YtebcfkigbbolaaaGreatDoorJoint00
import Derived.Deep.LoopGhost
import Derived.Shelf.Abstract
import Derived.BigQuiet
import Derived.Deep.QuietTactic
import Derived.Lib.Strings
import Derived.Laws.IdiomStrings
import Derived.RegionTactic
namespace Go.Proofs.YtebcfkigbbolaaaGreatDoor
set_option linter.unusedVariables false
set_option maxRecDepth 100000
set_option maxHeartbeats 40000000
section
open Go.RowKit Go.Shelf
theorem ga(g:Nat)(cb:Array Value)(n:Nat)(p:Nat→Bool)(w:World)(eg:∀args w,(callFunc g args).run Tryz.prog w= .ok (.enter g args) w)(hn:n≤10000)
 (hf:∀(i:Nat) (W:World),i<n→Below w.heap.size w W→Calls Tryz.prog g (#[.int .i64 i]++cb) W λe W'=>e= .returned (.bool (p i))∧Below w.heap.size w W')
 (hmono:∀a b,a≤b→b<n→p a=true→p b=true):
 Calls Tryz.prog 191 #[.int .i64 n,.func (.func g) #[] cb] w λe w'=>∃r:Nat,e= .returned (.int .i64 (r:Nat))∧r≤n∧(∀t,t<r→p t=false)∧(∀t,r≤t→t<n→p t=true)∧Below w.heap.size w w':=by
 have HF:Hid (∀(i:Nat) (W:World),i<n→Below w.heap.size w W→Calls Tryz.prog g (#[.int .i64 i]++cb) W λe W'=>e= .returned (.bool (p i))∧Below w.heap.size w W'):=hf;have M:Hid (∀a b,a≤b→b<n→p a=true→p b=true):=hmono;clear hf hmono;go_enter Tryz.func191,Tryz.ntmps191
 go_wp2
 go_loopg [5,6] n (λkx s5 s6 wr=>∃(lo hi:Nat),s5= .int .i64 lo∧s6= .int .i64 hi∧lo≤hi∧hi≤n∧hi-lo≤kx∧Below w.heap.size w wr ∧
  Hid ((∀t,t<lo→p t=false)∧(∀t,hi≤t→t<n→p t=true)))
 case atStart=>exact⟨0,n,rfl,rfl,Nat.zero_le _,Nat.le_refl _,by omega,Below.refl _ _,(⟨λt ht=>absurd ht (Nat.not_lt_zero _),λt h1 h2=>by omega⟩:(∀t,t<0→p t=false)∧(∀t,n≤t→t<n→p t=true))⟩
 case round =>
  obtain⟨lo,hi,rfl,rfl,hlh,hin,hg,hb,I⟩:=hrel;by_cases hlt:lo<hi
  ·have hc:=HF.out ((lo+hi) / 2) _ (by omega) hb
   rw[show(((lo+hi) / 2:Nat):Int)=((lo:Int)+(hi:Int)) / 2 by omega]at hc;cases hp:p ((lo+hi) / 2)<;>rw[hp]at hc
   ·have HP:Hid (p ((lo+hi) / 2)=false):=hp
    clear hp
    go_wp2_with (go_at_fn g;refine hc.mono ?_;rintro e w' ⟨rfl,hb2⟩)
    go_roundg (hi-((lo+hi) / 2+1))
    case measure=>omega
    case rel =>
     have I2:Hid ((∀t,t<(lo+hi) / 2+1→p t=false)∧(∀t,hi≤t→t<n→p t=true)):=⟨λt ht=>(by
      cases h:p t with
      |false=>rfl
      |true=>have:=M.out t ((lo+hi) / 2) (by omega) (by omega) h;rw[HP.out]at this;cases this),I.out.2⟩
     exact⟨(lo+hi) / 2+1,hi,by rw[show((lo:Int)+(hi:Int)) / 2+1=(((lo+hi) / 2+1:Nat):Int) by omega],rfl,by omega,hin,Nat.le_refl _,hb2,I2⟩
   ·have HP:Hid (p ((lo+hi) / 2)=true):=hp
    clear hp
    go_wp2_with (go_at_fn g;refine hc.mono ?_;rintro e w' ⟨rfl,hb2⟩)
    go_roundg ((lo+hi) / 2-lo)
    case measure=>omega
    case rel =>
     have I2:Hid ((∀t,t<lo→p t=false)∧(∀t,(lo+hi) / 2≤t→t<n→p t=true)):=⟨I.out.1,λt ht htn=>M.out ((lo+hi) / 2) t ht htn HP.out⟩
     exact⟨lo,(lo+hi) / 2,rfl,by rw[show((lo:Int)+(hi:Int)) / 2=(((lo+hi) / 2:Nat):Int) by omega],by omega,by omega,Nat.le_refl _,hb2,I2⟩
  ·obtain rfl:hi=lo:=by omega
   go_wp2
   go_ret
   exact⟨hi,rfl,hin,I.out.1,I.out.2,hb⟩
theorem gc(g bx:Nat)(cb:Array Value)(i:Nat)(b:Bool)(W:World)(B:Nat)(w:World)(hi:i≤10000)(eg:∀args w,(callFunc g args).run Tryz.prog w= .ok (.enter g args) w)
 (hx:W.cell? ⟨bx,0,none⟩=some (.func (.func g) #[] cb))
 (hf:Calls Tryz.prog g (#[.int .i64 ((i+1:Nat):Int)]++cb) W λe W'=>e= .returned (.bool b)∧Below B w W'):
 Calls Tryz.prog 192 #[.int .i64 i,.pointer (some ⟨bx,0,none⟩)] W λe W'=>e= .returned (.bool !b)∧Below B w W':=by
 rw[show((i+1:Nat):Int)=(i:Int)+1 by omega]at hf;go_enter Tryz.func192,Tryz.ntmps192
 go_wp2_with (go_at_fn g;refine hf.mono ?_;rintro e w' ⟨rfl,hb2⟩)
 go_ret
 exact⟨rfl,hb2⟩
theorem Jv(g:Nat)(cb:Array Value)(L:Nat)(F:Nat→Bool)(w:World)(eg:∀args w,(callFunc g args).run Tryz.prog w= .ok (.enter g args) w)(hn:L≤10000)
 (hf:∀(d:Nat) (W:World),d≤L→Below w.heap.size w W→Calls Tryz.prog g (#[.int .i64 (d:Nat)]++cb) W λe W'=>e= .returned (.bool (F d))∧Below W.heap.size W W')
 (hanti:∀a b,a≤b→b≤L→F b=true→F a=true):
 Calls Tryz.prog 181 #[.int .i64 L,.func (.func g) #[] cb] w λe w'=>∃r:Nat,e= .returned (.int .i64 (r:Nat))∧vW L F r∧Below w.heap.size w w':=by
 obtain⟨W0,hW0⟩:∃W0,W0=w.alloc (.cells #[.func (.func g) #[] cb] 158):=⟨_,rfl⟩
 have hs0:W0.heap.size=w.heap.size+1:=by rw[hW0];simp
 have hx0:zh W0 w.heap.size 158 #[.func (.func g) #[] cb]:=by rw[hW0];exact zh.new _ _ _
 have hB0:Below w.heap.size w W0:=by rw[hW0];exact(Below.refl _ w).alloc (Nat.le_refl _) _
 have hS:=ga 192 #[.pointer (some ⟨w.heap.size,0,none⟩)] L (λi=> !F (i+1)) W0 (enters_of Tryz.func192 (by kernel_rfl) rfl) hn
  (λi W hi hb=>by
    refine(gc g w.heap.size cb i (F (i+1)) W W0.heap.size W0 (by omega) eg (by rw[(hx0.below hb (by omega)).cell 0];rfl) ?_);refine(hf (i+1) W (by omega) (hB0.trans (hb.mono (by omega)))).mono ?_;rintro e W' ⟨rfl,h⟩
    exact⟨rfl,hb.trans (h.mono hb.size)⟩)
  (λa b hab hb h=>by
    cases hq:F (b+1)with
    |false=>rfl
    |true=>rw[hanti (a+1) (b+1) (by omega) (by omega) hq]at h;cases h)
 have HS:Hid (Calls Tryz.prog 191 #[.int .i64 L,.func (.func 192) #[] #[.pointer (some ⟨w.heap.size,0,none⟩)]] W0 λe w'=>∃r:Nat,e= .returned (.int .i64 (r:Nat))∧r≤L∧(∀t,t<r→(!F (t+1))=false)∧(∀t,r≤t→t<L→(!F (t+1))=true)∧Below W0.heap.size W0 w'):=hS;clear hS hf hanti;go_enter Tryz.func181,Tryz.ntmps181
 go_wp2_with (first
  |((go_at_call 191)
    rw[←hW0];refine HS.out.mono ?_;(rintro e w1 ⟨r,rfl,h1,h2,h3,h4⟩)))
 go_ret
 exact⟨r,rfl,⟨h1,λt ht=>by have:=h2 t ht;simpa using this,λh=>by have:=h3 r (Nat.le_refl _) h;simpa using this⟩,hB0.trans (h4.mono (by omega))⟩
end
section
open Go.ChangeShapes Go.WideShapes Go.ChangeAt Go.RowKit Go.Shelf
theorem kq{o:Oper}{a:Act}(x:Operand)(ho:o.op= .load 117 x)(p:Addr)(hx:a.eval x= .pointer (some p))(v:Value)(w:World)(h:w.cell? p=some v):(execOp a.eval o).run Tryz.prog w= .ok (.value v) w:=by
 unfold execOp;simp only[ho,hx];simp[go_sem,h]
theorem gJ{o:Oper}{a:Act}(x y:Operand)(ho:o.op= .binOp .leq 3 x y 3)(p q:Int)(hx:a.eval x= .int .i64 p)(hy:a.eval y= .int .i64 q)(c:Bool)(hc:decide (p≤q)=c)(w:World):
 (execOp a.eval o).run Tryz.prog w= .ok (.value (.bool c)) w:=by
 unfold execOp;simp only[ho,hx,hy];subst hc;go_simp
theorem uT(g bf bn:Nat)(rest:Nat→Nat)(d n:Nat)(W:World)(hn:n≤8192)(hd:d≤8192)(hr:rest d≤100000)
 (eg:∀args w,(callFunc g args).run Tryz.prog w= .ok (.enter g args) w)
 (hx:zh W bf 117 #[.func (.func g) #[] #[]]) (hy:zh W bn 3 #[.int .i64 (n:Nat)])
 (hf:∀W:World,Calls Tryz.prog g #[.int .i64 (d:Nat)] W λe W'=>e= .returned (.int .i64 (rest d:Nat))∧Below W.heap.size W W'):
 Calls Tryz.prog 197 #[.int .i64 (d:Nat),.pointer (some ⟨bf,0,none⟩),.pointer (some ⟨bn,0,none⟩)] W λe W'=>e= .returned (.bool (JM rest n d))∧Below W.heap.size W W':=by
 have HF:decide (((d+rest d:Nat):Int)≤(n:Int))=JM rest n d:=by unfold JM;exact decide_eq_decide.2 (by omega)
 generalize rest d=q at hf hr HF;generalize JM rest n d=bo at HF ⊢;have HH:Hid (decide (((d+q:Nat):Int)≤(n:Int))=bo):=HF;clear HF;go_enter Tryz.func197,Tryz.ntmps197
 go_wp2
 refine wp_region_held_drew (S:=λw'=>zh w' bf 117 #[.func (.func g) #[] #[]]∧zh w' bn 3 #[.int .i64 (n:Nat)]∧Below W.heap.size W w') (by kernel_rfl) ⟨hx,hy,(Below.refl _ W).drew⟩ (λhHeld=>?_);refine zR 0 (some 5) (.int .i64 (d:Nat)) hHeld ?_;simp only[Act.put,zl,zk,zj];refine qk 1 (some 6) (.func (.func g) #[] #[]) rfl rfl (λwz hz=>kq _ rfl ⟨bf,0,none⟩ rfl _ wz (by rw[hz.1.cell 0];rfl)) hHeld ?_;simp only[Act.put,zl,zk,zj];refine zR 2 (some 7) (.int .i64 (d:Nat)) hHeld ?_;simp only[Act.put,zl,zk,zj];refine qk 5 (some 10) (.int .i64 (n:Nat)) rfl rfl (λwz hz=>xG _ rfl ⟨bn,0,none⟩ rfl _ wz (by rw[hz.2.1.cell 0];rfl)) hHeld ?_;simp only[Act.put,zl,zk,zj];refine K2 3 (some 8) g #[.int .i64 (d:Nat)] (by kernel_rfl) rfl rfl (by rfl) (by unfold execOp;simp[Act.eval,go_sem,eg]) (hf _) ?_;rintro e w1 ⟨rfl,hb1⟩;have hb1':Below W.heap.size W w1:=hHeld.2.2.trans hb1
 have hH1:zh w1 bf 117 #[.func (.func g) #[] #[]]∧zh w1 bn 3 #[.int .i64 (n:Nat)]∧Below W.heap.size W w1:=⟨hx.below hb1' hx.lt,hy.below hb1' hy.lt,hb1'⟩
 refine⟨_,rfl,hH1,?_⟩;simp only[Act.put,zl,zk,zj];refine qk 4 (some 9) (.int .i64 ((d+q:Nat):Int)) rfl rfl (λwz hz=>JB _ _ rfl d q rfl rfl (by omega) (by omega) wz) hH1 ?_;simp only[Act.put,zl,zk,zj];refine qk 6 (some 11) (.bool bo) rfl rfl (λwz hz=>gJ _ _ rfl _ _ rfl rfl bo HH.out wz) hH1 ?_;simp only[Act.put,zl,zk,zj];refine qk 7 (some 4) (.bool bo) rfl rfl (λ_ _=>rfl) hH1 ?_;simp only[Act.put,zl,zk,zj];refine wpAnyH_done (by kernel_rfl) ?_ _
 go_wp2
 go_ret
 exact⟨rfl,hb1'⟩
theorem kF(g:Nat)(rest:Nat→Nat)(n L:Nat)(w:World)(hn:n≤8192)(hL:L≤8192)(hr:∀d,d≤L→rest d≤100000)(hm:∀a b,a≤b→b≤L→rest a≤rest b)
 (eg:∀args w,(callFunc g args).run Tryz.prog w= .ok (.enter g args) w)
 (hf:∀(d:Nat) (W:World),d≤L→Calls Tryz.prog g #[.int .i64 (d:Nat)] W λe W'=>e= .returned (.int .i64 (rest d:Nat))∧Below W.heap.size W W'):
 Calls Tryz.prog 194 #[.int .i64 (n:Nat),.int .i64 (L:Nat),.func (.func g) #[] #[]] w λe w'=>∃r:Nat,e= .returned (.tuple #[.int .i64 (r:Nat),.int .i64 (rest r:Nat)])∧vW L (JM rest n) r∧Below w.heap.size w w':=by
 obtain⟨W0,hW0⟩:∃W0,W0=(w.alloc (.cells #[.int .i64 (n:Nat)] 3)).alloc (.cells #[.func (.func g) #[] #[]] 117):=⟨_,rfl⟩
 have hs0:W0.heap.size=w.heap.size+2:=by rw[hW0];simp
 have hy0:zh W0 w.heap.size 3 #[.int .i64 (n:Nat)]:=by rw[hW0];exact(zh.new _ _ _).alloc _
 have hx0:zh W0 (w.heap.size+1) 117 #[.func (.func g) #[] #[]]:=by rw[hW0];exact zh.new_at (by simp)
 have hB0:Below w.heap.size w W0:=by rw[hW0];exact((Below.refl _ w).alloc (Nat.le_refl _) _).alloc (by simp) _
 have hG:=Jv 197 #[.pointer (some ⟨w.heap.size+1,0,none⟩),.pointer (some ⟨w.heap.size,0,none⟩)] L (JM rest n) W0 (enters_of Tryz.func197 (by kernel_rfl) rfl) (by omega)
  (λd W hd hb=>uT g (w.heap.size+1) w.heap.size rest d n W hn (by omega) (hr d hd) eg (hx0.below hb (by omega)) (hy0.below hb (by omega)) (λW=>hf d W hd))
  (λa b hab hb h=>GQ hm a b hab hb h)
 have HG:Hid (Calls Tryz.prog 181 #[.int .i64 (L:Nat),.func (.func 197) #[] #[.pointer (some ⟨w.heap.size+1,0,none⟩),.pointer (some ⟨w.heap.size,0,none⟩)]] W0 λe w'=>∃r:Nat,e= .returned (.int .i64 (r:Nat))∧vW L (JM rest n) r∧Below W0.heap.size W0 w'):=hG;have hy0c:=hy0.cell 0;simp only[List.getElem?_toArray,List.getElem?_cons_zero]at hy0c;have HF:Hid (∀(d:Nat) (W:World),d≤L→Calls Tryz.prog g #[.int .i64 (d:Nat)] W λe W'=>e= .returned (.int .i64 (rest d:Nat))∧Below W.heap.size W W'):=hf;clear hG hf hr hm;go_enter Tryz.func194,Tryz.ntmps194
 go_wp2_with (first
  |((go_at_call 179)
    refine(vx _ _ _ _ ⟨by omega,by omega⟩).mono ?_;(rintro e w1 ⟨rfl,rfl⟩))
  |((go_at_call 181)
    rw[←hW0];refine HG.out.mono ?_;rintro e w1 ⟨r,rfl,h1,h4⟩;(have hxc:=(hx0.below h4 hx0.lt).cell 0))
  |((go_at_fn g)
    refine(HF.out r _ h1.1).mono ?_;(rintro e w2 ⟨rfl,h5⟩)))
 go_ret2
 exact⟨r,rfl,h1,(hB0.trans (h4.mono (by omega))).trans (h5.mono (by have:=h4.size;omega))⟩
theorem XE(n:Nat)(w:World)(h:n≤8192):Calls Tryz.prog 185 #[.int .i64 (n:Nat)] w λe w'=>∃r:Nat,e= .returned (.tuple #[.int .i64 (r:Nat),.int .i64 (tg r:Nat)])∧vW 8192 (JM tg n) r∧Below w.heap.size w w':=by
 have hs:=kF 195 tg n 8192 w h (by omega) (λd hd=>by unfold tg;omega) (λa b hab _=>fW a b hab) (enters_of Tryz.func195 (by kernel_rfl) rfl)
  (λd W hd=>(de d W hd).mono (by rintro e W' ⟨rfl,rfl⟩;exact⟨rfl,Below.refl _ _⟩))
 generalize ((n:Nat):Int)=N at hs ⊢;clear h;go_enter Tryz.func185,Tryz.ntmps185
 go_wp2_with (first
  |((go_at_call 194)
    refine hs.mono ?_;(rintro e w1 ⟨r,rfl,h1,hb⟩)))
 go_ret2
 exact⟨r,rfl,h1,hb⟩
theorem Fg(n:Nat)(w:World)(h:n≤8192):Calls Tryz.prog 186 #[.int .i64 (n:Nat)] w λe w'=>∃r:Nat,e= .returned (.tuple #[.int .i64 (r:Nat),.int .i64 (hs r:Nat)])∧vW 2048 (JM hs n) r∧Below w.heap.size w w':=by
 have hs:=kF 196 hs n 2048 w h (by omega) (λd hd=>by have:=Dm d;omega) (λa b hab hb=>fJ hab hb) (enters_of Tryz.func196 (by kernel_rfl) rfl)
  (λd W hd=>Gj d W (by omega))
 generalize ((n:Nat):Int)=N at hs ⊢;clear h;go_enter Tryz.func186,Tryz.ntmps186
 go_wp2_with (first
  |((go_at_call 194)
    refine hs.mono ?_;(rintro e w1 ⟨r,rfl,h1,hb⟩)))
 go_ret2
 exact⟨r,rfl,h1,hb⟩
theorem yr{f:FuncId}{args:Array Value}{w:World}{R:Ending→World→Prop}(i:Nat)(v:Value)(h:args[i]?=some v)(k:Calls Tryz.prog f args w R):Calls Tryz.prog f args w R:=k
theorem Fc(s table chunk n b1 b2 b3:Nat)(W:World)(h1:s≤8192)(h2:table≤8192)(h3:chunk≤16)(c1:W.cell? ⟨b1,0,none⟩=some (.int .i64 (table:Nat)))(c2:W.cell? ⟨b2,0,none⟩=some (.int .i64 (chunk:Nat)))(c3:W.cell? ⟨b3,0,none⟩=some (.int .i64 (n:Nat))):
 Calls Tryz.prog 182 #[.int .i64 (s:Nat),.pointer (some ⟨b1,0,none⟩),.pointer (some ⟨b2,0,none⟩),.pointer (some ⟨b3,0,none⟩)] W λe W'=>e= .returned (.bool (Qk table chunk n s))∧Below W.heap.size W W':=by
 have hm:s*chunk≤8192*16:=Nat.mul_le_mul h1 h3
 have HF:Hid (decide ((table:Int)+(s:Int)*(chunk:Int)≤(n:Int))=Qk table chunk n s):=(by unfold Qk;exact decide_eq_decide.2 (by rw[←Int.natCast_mul];omega):decide ((table:Int)+(s:Int)*(chunk:Int)≤(n:Int))=Qk table chunk n s)
 have hm2:(s:Int)*(chunk:Int)≤131072:=by rw[←Int.natCast_mul];omega
 have hm3:0≤(s:Int)*(chunk:Int):=by rw[←Int.natCast_mul];omega
 generalize Qk table chunk n s=bo at HF ⊢;have ht1:0≤(table:Int):=by omega
 have ht2:(table:Int)≤8192:=by omega
 generalize (table:Int)=T at *;generalize (s:Int)=S at *;generalize (chunk:Int)=C at *;generalize (n:Int)=N at *;clear h1 h2 h3 hm;go_enter Tryz.func182,Tryz.ntmps182
 go_wp2
 go_ret
 rw[HF.out];exact⟨rfl,Below.refl _ _⟩
def Hf(table s:Nat):Nat:=if s=0 then 0 else table
def vc(origin chunk:Nat):Nat:=(origin+chunk-1) / chunk
def yA(origin chunk:Nat):Nat:=(vc origin chunk+15) / 16
theorem UQ{origin chunk:Nat}(h1:1≤origin)(h2:origin≤8192)(h3:1≤chunk):1≤vc origin chunk∧vc origin chunk≤8192:=by
 unfold vc;constructor
 ·exact(Nat.le_div_iff_mul_le (by omega)).2 (by omega)
 ·refine Nat.div_le_of_le_mul ?_
  have:=Nat.mul_le_mul_right (chunk-1) h1
  have e:chunk*8192=8192*(chunk-1)+8192:=by
   obtain⟨k,rfl⟩:∃k,chunk=k+1:=⟨chunk-1,by omega⟩
   simp only[Nat.add_sub_cancel];omega
  omega
theorem gD(n o c:Int)(w:World)(h:¬((1≤n∧n≤8192)∧(1≤o∧o≤8192)∧(1≤c∧c≤16))):
 Calls Tryz.prog 162 #[.int .i64 n,.int .i64 o,.int .i64 c] w λe w'=>e= .returned (.tuple #[.int .i64 0,.int .i64 0])∧Below w.heap.size w w':=by
 have hb:∀a b,Below w.heap.size w ((w.alloc a).alloc b):=λa b=>((Below.refl _ w).alloc (Nat.le_refl _) _).alloc (by simp) _
 by_cases h1:1≤n∧n≤8192
 ·by_cases h2:1≤o∧o≤8192
  ·have h3:¬(1≤c∧c≤16):=λh3=>h ⟨h1,h2,h3⟩
   clear h;have H1:Hid (1≤n∧n≤8192):=h1;have H2:Hid (1≤o∧o≤8192):=h2;have H3:Hid (¬(1≤c∧c≤16)):=h3;clear h1 h2 h3;go_enter Tryz.func162,Tryz.ntmps162
   go_wp2_with (first
    |((go_at_call 179)
      refine yr 0 (.int .i64 n) rfl ?_;refine(vx _ _ _ _ H1.out).mono ?_;(rintro e w1 ⟨rfl,rfl⟩))
    |((go_at_call 179)
      refine yr 0 (.int .i64 o) rfl ?_;refine(vx _ _ _ _ H2.out).mono ?_;(rintro e w1 ⟨rfl,rfl⟩))
    |((go_at_call 179)
      refine(Qv _ _ _ _ H3.out).mono ?_;(rintro e w1 ⟨rfl,rfl⟩)))
   go_ret2
   exact⟨rfl,hb _ _⟩
  ·clear h
   have H1:Hid (1≤n∧n≤8192):=h1;have H2:Hid (¬(1≤o∧o≤8192)):=h2;clear h1 h2;go_enter Tryz.func162,Tryz.ntmps162
   go_wp2_with (first
    |((go_at_call 179)
      refine yr 0 (.int .i64 n) rfl ?_;refine(vx _ _ _ _ H1.out).mono ?_;(rintro e w1 ⟨rfl,rfl⟩))
    |((go_at_call 179)
      refine yr 0 (.int .i64 o) rfl ?_;refine(Qv _ _ _ _ H2.out).mono ?_;(rintro e w1 ⟨rfl,rfl⟩)))
   go_ret2
   exact⟨rfl,hb _ _⟩
 ·clear h
  have H1:Hid (¬(1≤n∧n≤8192)):=h1;clear h1;go_enter Tryz.func162,Tryz.ntmps162
  go_wp2_with (first
   |((go_at_call 179)
     refine(Qv _ _ _ _ H1.out).mono ?_;(rintro e w1 ⟨rfl,rfl⟩)))
  go_ret2
  exact⟨rfl,hb _ _⟩
theorem fN(n o c:Nat)(w:World)(h1:1≤n∧n≤8192)(h2:1≤o∧o≤8192)(h3:1≤c∧c≤16):
 Calls Tryz.prog 162 #[.int .i64 (n:Nat),.int .i64 (o:Nat),.int .i64 (c:Nat)] w λe w'=>∃s:Nat,e= .returned (.tuple #[.int .i64 (Hf (yA o c) s:Nat),.int .i64 (s:Nat)])∧vW (vc o c) (Qk (yA o c) c n) s∧Below w.heap.size w w':=by
 have hcl:=UQ h2.1 h2.2 h3.1
 have H1:Hid ((1:Int)≤(n:Int)∧(n:Int)≤8192):=(by omega:(1:Int)≤(n:Int)∧(n:Int)≤8192)
 have H2:Hid ((1:Int)≤(o:Int)∧(o:Int)≤8192):=(by omega:(1:Int)≤(o:Int)∧(o:Int)≤8192)
 have H3:Hid ((1:Int)≤(c:Int)∧(c:Int)≤16):=(by omega:(1:Int)≤(c:Int)∧(c:Int)≤16)
 have g1:=λW=>JJ o c W (by omega) (by omega) (by omega)
 have g2:=λW=>JJ (vc o c) 16 W (by omega) (by omega) (by omega)
 rw[show(o+c-1) / c=vc o c from rfl]at g1;rw[show(vc o c+16-1) / 16=yA o c from rfl]at g2;have ht:yA o c≤8192:=by unfold yA;omega
 generalize yA o c=T at *;generalize vc o c=K at *
 obtain⟨W0,hW0⟩:∃W0,W0=((w.alloc (.cells #[.int .i64 (n:Nat)] 3)).alloc (.cells #[.int .i64 (c:Nat)] 3)).alloc (.cells #[.int .i64 (T:Nat)] 3):=⟨_,rfl⟩
 have hs0:W0.heap.size=w.heap.size+3:=by rw[hW0];simp
 have c1:W0.cell? ⟨w.heap.size+1+1,0,none⟩=some (.int .i64 (T:Nat)):=by rw[hW0];simp[go_sem]
 have c2:W0.cell? ⟨w.heap.size+1,0,none⟩=some (.int .i64 (c:Nat)):=by rw[hW0];simp[go_sem]
 have c3:W0.cell? ⟨w.heap.size,0,none⟩=some (.int .i64 (n:Nat)):=by rw[hW0];simp[go_sem]
 have hB0:Below w.heap.size w W0:=by rw[hW0];exact(((Below.refl _ w).alloc (Nat.le_refl _) _).alloc (by simp) _).alloc (by simp;omega) _
 have hG:=Jv 182 #[.pointer (some ⟨w.heap.size+1+1,0,none⟩),.pointer (some ⟨w.heap.size+1,0,none⟩),.pointer (some ⟨w.heap.size,0,none⟩)] K (Qk T c n) W0 (enters_of Tryz.func182 (by kernel_rfl) rfl) (by omega)
  (λd W hd hb=>Fc d T c n _ _ _ W (by omega) ht h3.2 (by rw[←c1];exact hb.cell (p:=⟨w.heap.size+1+1,0,none⟩) (by show w.heap.size+1+1<_;omega)) (by rw[←c2];exact hb.cell (p:=⟨w.heap.size+1,0,none⟩) (by show w.heap.size+1<_;omega)) (by rw[←c3];exact hb.cell (p:=⟨w.heap.size,0,none⟩) (by show w.heap.size<_;omega)))
  (λa b hab hb h=>U5 a b hab h)
 have HG:Hid (Calls Tryz.prog 181 #[.int .i64 (K:Nat),.func (.func 182) #[] #[.pointer (some ⟨w.heap.size+1+1,0,none⟩),.pointer (some ⟨w.heap.size+1,0,none⟩),.pointer (some ⟨w.heap.size,0,none⟩)]] W0 λe w'=>∃r:Nat,e= .returned (.int .i64 (r:Nat))∧vW K (Qk T c n) r∧Below W0.heap.size W0 w'):=hG;clear hG;have C1:Hid (W0.cell? ⟨w.heap.size+1+1,0,none⟩=some (.int .i64 (T:Nat))):=c1;have G1:Hid (∀W,Calls Tryz.prog 180 #[.int .i64 (o:Nat),.int .i64 (c:Nat)] W λe w'=>e= .returned (.int .i64 (K:Nat))∧w'=W):=g1;have G2:Hid (∀W,Calls Tryz.prog 180 #[.int .i64 (K:Nat),.int .i64 16] W λe w'=>e= .returned (.int .i64 (T:Nat))∧w'=W):=g2;clear c1 c2 c3 h1 h2 h3 hcl g1 g2;go_enter Tryz.func162,Tryz.ntmps162
 go_wp2_with (first
  |((go_at_call 179)
    refine yr 0 (.int .i64 (n:Nat)) rfl ?_;refine(vx _ _ _ _ H1.out).mono ?_;(rintro e w1 ⟨rfl,rfl⟩))
  |((go_at_call 179)
    refine yr 0 (.int .i64 (o:Nat)) rfl ?_;refine(vx _ _ _ _ H2.out).mono ?_;(rintro e w1 ⟨rfl,rfl⟩))
  |((go_at_call 179)
    refine(vx _ _ _ _ H3.out).mono ?_;(rintro e w1 ⟨rfl,rfl⟩))
  |((go_at_call 180)
    refine yr 1 (.int .i64 16) rfl ?_;refine(G2.out _).mono ?_;(rintro e w1 ⟨rfl,rfl⟩))
  |((go_at_call 180)
    refine(G1.out _).mono ?_;(rintro e w1 ⟨rfl,rfl⟩))
  |((go_at_call 181)
    rw[←hW0];refine HG.out.mono ?_;rintro e w1 ⟨r,rfl,h1,h4⟩;have c1:w1.cell? ⟨w.heap.size+1+1,0,none⟩=some (.int .i64 (T:Nat)):=(h4.cell (p:=⟨w.heap.size+1+1,0,none⟩) (by show w.heap.size+1+1<_;omega)).trans C1.out;(clear HG hW0)))
 all_goals go_ret2
 ·rename_i hz
  obtain rfl:r=0:=by simpa using hz
  exact⟨0,rfl,h1,hB0.trans (h4.mono (by omega))⟩
 ·rename_i hz
  have hz':¬r=0:=by simpa using hz
  refine⟨r,?_,h1,hB0.trans (h4.mono (by omega))⟩;unfold Hf;rw[if_neg hz'];rfl
structure R3 where
 d:Int
 f:Int
 c:Int
def R3.v(r:R3):Value:= .agg #[.int .i64 r.d,.int .i64 r.f,.int .i64 r.c]
def yc(f c:Int):Bool:=decide (0<c∧0≤f∧c≤2147483647∧f≤2147483647-c)
theorem Jd(f c:Int):yc f c=true↔(0<c∧0≤f∧c≤2147483647∧f≤2147483647-c):=by unfold yc;simp
theorem YQ(f c:Int):yc f c=false↔ ¬(0<c∧0≤f∧c≤2147483647∧f≤2147483647-c):=by unfold yc;simp
def xI(a b:R3):Bool:=decide (yc a.f a.c=true∧yc b.f b.c=true∧a.d=b.d∧a.f<b.f+b.c∧b.f<a.f+a.c)
theorem gW(a n:Int)(w:World)(h:0≤a∧0≤n∧n≤2147483647∧a≤2147483647-n):Calls Tryz.prog 95 #[.int .i64 a,.int .i64 n,.int .i64 2147483647] w λe w'=>e= .returned (.bool true)∧w'=w:=by
 obtain⟨h1,h2,h3,h4⟩:=h;go_enter Tryz.func95,Tryz.ntmps95
 go_wp2
 go_ret
 exact⟨rfl,rfl⟩
theorem FX(a n:Int)(w:World)(h:¬(0≤a∧0≤n∧n≤2147483647∧a≤2147483647-n)):Calls Tryz.prog 95 #[.int .i64 a,.int .i64 n,.int .i64 2147483647] w λe w'=>e= .returned (.bool false)∧w'=w:=by
 rcases(by omega:a<0∨(0≤a∧n<0)∨(0≤a∧0≤n∧2147483647<n)∨(0≤a∧0≤n∧n≤2147483647∧¬a≤2147483647-n))with h1|⟨h1,h2⟩|⟨h1,h2,h3⟩|⟨h1,h2,h3,h4⟩
 case inr.inr.inr=>have h5:=decide_eq_false h4
                   clear h;go_enter Tryz.func95,Tryz.ntmps95
                   go_wp2
                   go_ret
                   exact⟨rfl,rfl⟩
 all_goals
  clear h;go_enter Tryz.func95,Tryz.ntmps95
  go_wp2
  go_ret
  exact⟨rfl,rfl⟩
theorem Ki(d f c:Int)(w:World):Calls Tryz.prog 64 #[.agg #[.int .i64 d,.int .i64 f,.int .i64 c]] w λe w'=>e= .returned (.bool (yc f c))∧Below w.heap.size w w':=by
 have hb:∀a,Below w.heap.size w (w.alloc a):=λa=>(Below.refl _ w).alloc (Nat.le_refl _) _
 by_cases h0:0<c
 ·by_cases h:0≤f∧0≤c∧c≤2147483647∧f≤2147483647-c
  ·have hl:yc f c=true:=(Jd f c).2 ⟨h0,h.1,h.2.2.1,h.2.2.2⟩
   have H:Hid (0≤f∧0≤c∧c≤2147483647∧f≤2147483647-c):=h;rw[hl];clear h hl;go_enter Tryz.func64,Tryz.ntmps64
   go_wp2_with (first
    |((go_at_call 95)
      refine(gW _ _ _ H.out).mono ?_;(rintro e w1 ⟨rfl,rfl⟩)))
   go_ret
   exact⟨rfl,hb _⟩
  ·have hl:yc f c=false:=(YQ f c).2 (λk=>h ⟨k.2.1,by omega,k.2.2.1,k.2.2.2⟩)
   have H:Hid (¬(0≤f∧0≤c∧c≤2147483647∧f≤2147483647-c)):=h;rw[hl];clear h hl;go_enter Tryz.func64,Tryz.ntmps64
   go_wp2_with (first
    |((go_at_call 95)
      refine(FX _ _ _ H.out).mono ?_;(rintro e w1 ⟨rfl,rfl⟩)))
   go_ret
   exact⟨rfl,hb _⟩
 ·have hl:yc f c=false:=(YQ f c).2 (λk=>h0 k.1)
  rw[hl];clear hl;go_enter Tryz.func64,Tryz.ntmps64
  go_wp2
  go_ret
  exact⟨rfl,hb _⟩
theorem xq{a b:R3}(h:¬(yc a.f a.c=true∧yc b.f b.c=true∧a.d=b.d∧a.f<b.f+b.c∧b.f<a.f+a.c)):xI a b=false:=by
 unfold xI;exact decide_eq_false h
theorem gA{a b:R3}(h:yc a.f a.c=true∧yc b.f b.c=true∧a.d=b.d∧a.f<b.f+b.c∧b.f<a.f+a.c):xI a b=true:=by
 unfold xI;exact decide_eq_true h
theorem jt{w:World}{g t:Nat}{x y z:Value}(h:zh w g t #[x,y,z]):w.cell? ⟨g,0,none⟩=some x∧w.cell? ⟨g,1,none⟩=some y∧w.cell? ⟨g,2,none⟩=some z:=⟨h.cell 0,h.cell 1,h.cell 2⟩
theorem gV(a b:R3)(w:World):Calls Tryz.prog 34 #[a.v,b.v] w λe w'=>e= .returned (.bool (xI a b))∧Below w.heap.size w w':=by
 obtain⟨ad,af,ac⟩:=a;obtain⟨bd,bf,bc⟩:=b
 obtain⟨W0,hW0⟩:∃W0,W0=(w.alloc (.cells #[.int .i64 ad,.int .i64 af,.int .i64 ac] 42)).alloc (.cells #[.int .i64 bd,.int .i64 bf,.int .i64 bc] 42):=⟨_,rfl⟩
 have hB0:Below w.heap.size w W0:=by rw[hW0];exact((Below.refl _ w).alloc (Nat.le_refl _) _).alloc (by simp) _
 have hs0:W0.heap.size=w.heap.size+2:=by rw[hW0];simp
 have hA:zh W0 w.heap.size 42 #[.int .i64 ad,.int .i64 af,.int .i64 ac]:=by rw[hW0];exact(zh.new _ _ _).alloc _
 have hB:zh W0 (w.heap.size+1) 42 #[.int .i64 bd,.int .i64 bf,.int .i64 bc]:=by rw[hW0];exact zh.new_at (by simp)
 have hla:=Ki ad af ac W0;by_cases h1:yc af ac=true
 ·rw[h1]at hla
  have HA:Hid (Calls Tryz.prog 64 #[.agg #[.int .i64 ad,.int .i64 af,.int .i64 ac]] W0 λe w'=>e= .returned (.bool true)∧Below W0.heap.size W0 w'):=hla;obtain⟨l1,l2,l3,l4⟩:=(Jd af ac).1 h1;clear hla;by_cases h2:yc bf bc=true
  ·have HB:Hid (∀W,Calls Tryz.prog 64 #[.agg #[.int .i64 bd,.int .i64 bf,.int .i64 bc]] W λe w'=>e= .returned (.bool true)∧Below W.heap.size W w'):=λW=>by rw[←h2];exact Ki bd bf bc W
   obtain⟨m1,m2,m3,m4⟩:=(Jd bf bc).1 h2;by_cases h3:ad=bd
   ·by_cases h4:af<bf+bc
    ·by_cases h5:bf<af+ac
     ·rw[gA (a:=⟨ad,af,ac⟩) (b:=⟨bd,bf,bc⟩) ⟨h1,h2,h3,h4,h5⟩]
      simp only[R3.v];subst h3;clear h1 h2;go_enter Tryz.func34,Tryz.ntmps34
      go_wp2_with (first
       |((go_at_call 64)
         refine yr 0 (.agg #[.int .i64 ad,.int .i64 af,.int .i64 ac]) rfl ?_;rw[←hW0];refine HA.out.mono ?_;rintro e w1 ⟨rfl,hb1⟩;obtain⟨a0,a1,a2⟩:=jt (hA.below hb1 hA.lt);(obtain⟨b0,b1,b2⟩:=jt (hB.below hb1 hB.lt)))
       |((go_at_call 64)
         refine(HB.out _).mono ?_;rintro e w2 ⟨rfl,hb2⟩;obtain⟨x0,x1,x2⟩:=jt ((hA.below hb1 hA.lt).below hb2 (hA.below hb1 hA.lt).lt);(obtain⟨y0,y1,y2⟩:=jt ((hB.below hb1 hB.lt).below hb2 (hB.below hb1 hB.lt).lt))))
      go_ret
      exact⟨rfl,(hB0.trans (hb1.mono (by omega))).trans (hb2.mono (by have:=hb1.size;omega))⟩
     ·rw[xq (a:=⟨ad,af,ac⟩) (b:=⟨bd,bf,bc⟩) (λk=>h5 k.2.2.2.2)]
      have h6:=decide_eq_false h5;simp only[R3.v];subst h3;clear h1 h2;go_enter Tryz.func34,Tryz.ntmps34
      go_wp2_with (first
       |((go_at_call 64)
         refine yr 0 (.agg #[.int .i64 ad,.int .i64 af,.int .i64 ac]) rfl ?_;rw[←hW0];refine HA.out.mono ?_;rintro e w1 ⟨rfl,hb1⟩;obtain⟨a0,a1,a2⟩:=jt (hA.below hb1 hA.lt);(obtain⟨b0,b1,b2⟩:=jt (hB.below hb1 hB.lt)))
       |((go_at_call 64)
         refine(HB.out _).mono ?_;rintro e w2 ⟨rfl,hb2⟩;obtain⟨x0,x1,x2⟩:=jt ((hA.below hb1 hA.lt).below hb2 (hA.below hb1 hA.lt).lt);(obtain⟨y0,y1,y2⟩:=jt ((hB.below hb1 hB.lt).below hb2 (hB.below hb1 hB.lt).lt))))
      go_ret
      exact⟨rfl,(hB0.trans (hb1.mono (by omega))).trans (hb2.mono (by have:=hb1.size;omega))⟩
    ·rw[xq (a:=⟨ad,af,ac⟩) (b:=⟨bd,bf,bc⟩) (λk=>h4 k.2.2.2.1)]
     simp only[R3.v];subst h3;clear h1 h2;go_enter Tryz.func34,Tryz.ntmps34
     go_wp2_with (first
      |((go_at_call 64)
        refine yr 0 (.agg #[.int .i64 ad,.int .i64 af,.int .i64 ac]) rfl ?_;rw[←hW0];refine HA.out.mono ?_;rintro e w1 ⟨rfl,hb1⟩;obtain⟨a0,a1,a2⟩:=jt (hA.below hb1 hA.lt);(obtain⟨b0,b1,b2⟩:=jt (hB.below hb1 hB.lt)))
      |((go_at_call 64)
        refine(HB.out _).mono ?_;rintro e w2 ⟨rfl,hb2⟩;obtain⟨x0,x1,x2⟩:=jt ((hA.below hb1 hA.lt).below hb2 (hA.below hb1 hA.lt).lt);(obtain⟨y0,y1,y2⟩:=jt ((hB.below hb1 hB.lt).below hb2 (hB.below hb1 hB.lt).lt))))
     go_ret
     exact⟨rfl,(hB0.trans (hb1.mono (by omega))).trans (hb2.mono (by have:=hb1.size;omega))⟩
   ·rw[xq (a:=⟨ad,af,ac⟩) (b:=⟨bd,bf,bc⟩) (λk=>h3 k.2.2.1)]
    simp only[R3.v];clear h1 h2;go_enter Tryz.func34,Tryz.ntmps34
    go_wp2_with (first
     |((go_at_call 64)
       refine yr 0 (.agg #[.int .i64 ad,.int .i64 af,.int .i64 ac]) rfl ?_;rw[←hW0];refine HA.out.mono ?_;rintro e w1 ⟨rfl,hb1⟩;obtain⟨a0,a1,a2⟩:=jt (hA.below hb1 hA.lt);(obtain⟨b0,b1,b2⟩:=jt (hB.below hb1 hB.lt)))
     |((go_at_call 64)
       refine(HB.out _).mono ?_;rintro e w2 ⟨rfl,hb2⟩;obtain⟨x0,x1,x2⟩:=jt ((hA.below hb1 hA.lt).below hb2 (hA.below hb1 hA.lt).lt);(obtain⟨y0,y1,y2⟩:=jt ((hB.below hb1 hB.lt).below hb2 (hB.below hb1 hB.lt).lt))))
    go_ret
    exact⟨rfl,(hB0.trans (hb1.mono (by omega))).trans (hb2.mono (by have:=hb1.size;omega))⟩
  ·have HB:Hid (∀W,Calls Tryz.prog 64 #[.agg #[.int .i64 bd,.int .i64 bf,.int .i64 bc]] W λe w'=>e= .returned (.bool false)∧Below W.heap.size W w'):=λW=>by rw[←(show yc bf bc=false by simpa using h2)];exact Ki bd bf bc W
   rw[xq (a:=⟨ad,af,ac⟩) (b:=⟨bd,bf,bc⟩) (λk=>h2 k.2.1)];simp only[R3.v];clear h1 h2;go_enter Tryz.func34,Tryz.ntmps34
   go_wp2_with (first
    |((go_at_call 64)
      refine yr 0 (.agg #[.int .i64 ad,.int .i64 af,.int .i64 ac]) rfl ?_;rw[←hW0];refine HA.out.mono ?_;rintro e w1 ⟨rfl,hb1⟩;obtain⟨a0,a1,a2⟩:=jt (hA.below hb1 hA.lt);(obtain⟨b0,b1,b2⟩:=jt (hB.below hb1 hB.lt)))
    |((go_at_call 64)
      refine(HB.out _).mono ?_;rintro e w2 ⟨rfl,hb2⟩;obtain⟨x0,x1,x2⟩:=jt ((hA.below hb1 hA.lt).below hb2 (hA.below hb1 hA.lt).lt);(obtain⟨y0,y1,y2⟩:=jt ((hB.below hb1 hB.lt).below hb2 (hB.below hb1 hB.lt).lt))))
   go_ret
   exact⟨rfl,(hB0.trans (hb1.mono (by omega))).trans (hb2.mono (by have:=hb1.size;omega))⟩
 ·rw[xq (a:=⟨ad,af,ac⟩) (b:=⟨bd,bf,bc⟩) (λk=>h1 k.1)]
  rw[show yc af ac=false by simpa using h1]at hla;have HA:Hid (Calls Tryz.prog 64 #[.agg #[.int .i64 ad,.int .i64 af,.int .i64 ac]] W0 λe w'=>e= .returned (.bool false)∧Below W0.heap.size W0 w'):=hla;simp only[R3.v];clear h1 hla;go_enter Tryz.func34,Tryz.ntmps34
  go_wp2_with (first
   |((go_at_call 64)
     rw[←hW0];refine HA.out.mono ?_;(rintro e w1 ⟨rfl,hb1⟩)))
  go_ret
  exact⟨rfl,hB0.trans (hb1.mono (by omega))⟩
end
section
structure Pt where
 kind:Nat
 size:Nat
 kids:List Nat
 dev:Nat
 first:Nat
 chunk:Nat
 key:List UInt8
 root:List UInt8
structure Mn where
 word:List UInt8
 node:Nat
 bytes:List UInt8
abbrev yq:=List (List UInt8×Mn)
abbrev Er:=Nat×Int
def lk(ns:yq)(s:List UInt8):Option Mn:=(ns.find? (λx=>x.1==s)).map (·.2)
def jN(ns:yq)(ws:List (List UInt8)):Nat:=(ns.filter (λx=>ws.any (λy=>x.2.word==y))).length
def qV(ns:yq)(n:Nd)(ws:List (List UInt8)):Except Er Mn:=match lk ns n.s with
 |none=> .error (131,n.a)
 |some m=>if ws.any (λy=>m.word==y)then .ok m else .error (133,n.a)
def xL(o:List Bool)(p:Pt):Bool:=p.kind==8||(if p.kind==5 then p.kids.drop 1 else p.kids).any λk=>o.getD k false
def zX(ps:List Pt):List Bool:=ps.foldl (λo p=>o++ [xL o p]) []
def zI(ps:List Pt)(k:Nat):Pt:=ps.getD k ⟨0,0,[],0,0,0,[],[]⟩
def sz(ps:List Pt)(k:Nat):Nat:=(zI ps k).size
def Fy(L:Nat)(F:Nat→Bool):Nat:=match L with
 |0=>0
 |L+1=>let r:=Fy L F
       if r=L∧F (L+1)=true then L+1 else r
theorem Jb(L:Nat)(F:Nat→Bool):vW L F (Fy L F):=by
 induction L with
 |zero=>exact⟨Nat.le_refl _,λt h=>absurd h (Nat.not_lt_zero _),λh=>absurd h (Nat.not_lt_zero _)⟩
 |succ L ih =>
  obtain⟨h1,h2,h3⟩:=ih;unfold Fy;show vW (L+1) F (if Fy L F=L∧F (L+1)=true then L+1 else Fy L F);generalize Fy L F=r at *;by_cases e:r=L∧F (L+1)=true
  ·rw[if_pos e]
   obtain⟨rfl,e2⟩:=e;refine⟨Nat.le_refl _,λt ht=>?_,λh=>absurd h (Nat.lt_irrefl _)⟩;by_cases e3:t<r
   ·exact h2 t e3
   ·obtain rfl:t=r:=by omega
    exact e2
  ·rw[if_neg e]
   refine⟨by omega,h2,λ_=>?_⟩;by_cases e3:r<L
   ·exact h3 e3
   ·obtain rfl:r=L:=by omega
    cases hF:F (r+1)with
    |false=>rfl
    |true=>exact absurd ⟨rfl,hF⟩ e
def dI(n:Nat):Nat:=Fy 8192 (JM tg n)
def dV(n:Nat):Nat:=Fy 2048 (JM hs n)
def dR(n o:Nat)(c:Int):Nat:=if(1≤n∧n≤8192)∧(1≤o∧o≤8192)∧(1≤c∧c≤16)then Fy (vc o c.toNat) (Qk (yA o c.toNat) c.toNat n)else 0
def hv1(b:UInt8):Nat:=if 97≤b.toNat then b.toNat-87 else b.toNat-48
def vF:List UInt8→List UInt8
 |a::b::r=>UInt8.ofNat (16*hv1 a+hv1 b)::vF r
 |_=> []
def jb(n:Nd):List Nd:=n.l.filter λx=> !(x.op==j0||x.op==qZ)
def vh(l:List Nd)(k:Nat):Nd:=l.getD k (.mk [] [] 0 0 [])
def ym(ps:List Pt)(n:Nd)(ks:List Nat):Except Er Pt:=
 if ¬(2≤ks.length∧ks.length≤4)then .error (135,n.a)
 else if n.op=qK then
  if(ks.map (sz ps)).sum≤8192 then .ok ⟨3,(ks.map (sz ps)).sum,ks,0,0,0,[],[]⟩else .error (134,n.a)
 else if ks.all (λk=>sz ps k==sz ps (ks.getD 0 0))then .ok ⟨4,sz ps (ks.getD 0 0),ks,0,0,0,[],[]⟩else .error (134,n.a)
def qD(ns:yq)(n:Nd)(size:Nat)(ks:List Nat):Except Er Pt:=
 if n.op=va then match qV ns (vh n.l 1) [qo]with
  | .error e=> .error e
  | .ok m=>if m.bytes.take 16=m.bytes.drop 16 then .error (135,n.a)else .ok ⟨6,size,ks,0,0,0,m.bytes,[]⟩
 else if n.op=qy then match qV ns (vh n.l 1) [qo]with
  | .error e=> .error e
  | .ok m=>if dI size=0 then .error (134,n.a)else .ok ⟨7,dI size,ks,0,0,0,m.bytes,[]⟩
 else match qV ns (vh n.l 1) [zQ]with
  | .error e=> .error e
  | .ok m=>if dV size=0 then .error (134,n.a)else .ok ⟨8,dV size,ks,0,0,0,[],m.bytes⟩
def jy(ns:yq)(ps:List Pt)(n:Nd)(ks:List Nat):Except Er Pt:=
 if n.op=qL then
  if 0<(vh n.l 2).n∧(vh n.l 1).n+(vh n.l 2).n≤sz ps (ks.getD 0 0)then .ok ⟨2,(vh n.l 2).n.toNat,ks,0,(vh n.l 1).n.toNat,0,[],[]⟩else .error (134,n.a)
 else if n.op=qK∨n.op=ja then ym ps n ks
 else if n.op=qt then
  if dR (sz ps (ks.getD 1 0)) (sz ps (ks.getD 0 0)) (vh n.l 2).n=0 then .error (134,n.a)
  else if(zX ps).getD (ks.getD 1 0) false then .error (139,n.a)
  else .ok ⟨5,sz ps (ks.getD 0 0),ks,0,0,(vh n.l 2).n.toNat,[],[]⟩
 else qD ns n (sz ps (ks.getD 0 0)) ks
def jg(f:List Pt→Nd→Except Er (Nat×List Pt)):List Pt→List Nd→Except Er (List Nat×List Pt)
 |ps,[]=> .ok ([],ps)
 |ps,x::l=>match f ps x with
  | .error e=> .error e
  | .ok (k,p1)=>match jg f p1 l with
    | .error e=> .error e
    | .ok (ks,p2)=> .ok (k::ks,p2)
def jh(ns:yq):Nat→List Pt→Nd→Except Er (Nat×List Pt)
 |0,ps,n=> .error (0,0)
 |d+1,ps,n=>if n.op=jE then match qV ns n [zd,zv]with
   | .error e=> .error e
   | .ok m=> .ok (m.node,ps)
  else match jg (jh ns d) ps (jb n)with
   | .error e=> .error e
   | .ok (ks,p1)=>if 64≤p1.length then .error (137,n.a)else match jy ns p1 n ks with
     | .error e=> .error e
     | .ok p=> .ok (p1.length,p1++ [p])
structure Ck where
 devs:List Nat
 jour:Option Nat
 parts:List Pt
 expo:Option Nat
 ro:Bool
 eat:Int
 names:yq
def full(ns:yq)(op:List UInt8):Bool:=
 if op=zd∨op=zm then jN ns [zd,zm]==8
 else if op=qo∨op=zQ then jN ns [qo,zQ]==8
 else jN ns [zv]==16
def jJ(c:Ck)(n:Nd):Except Er (Ck×Mn):=
 if n.op=zm then
  if ¬(256≤n.n∧n.n≤2048)then .error (134,n.a)
  else if c.jour.isSome then .error (138,n.a)
  else .ok ({ c with jour:=some c.devs.length,devs:=c.devs++ [n.n.toNat] },⟨n.op,jN c.names [zd],[]⟩)
 else if n.op=zd then
  if ¬(1≤n.n∧n.n≤2048)then .error (134,n.a)
  else .ok ({ c with devs:=c.devs++ [n.n.toNat] },⟨n.op,jN c.names [zd],[]⟩)
 else if n.op=qo∨n.op=zQ then
  if(vh n.l 0).s.length≠64 then .error (135,n.a)else .ok (c,⟨n.op,0,vF (vh n.l 0).s⟩)
 else match jh c.names 12 c.parts (vh n.l 0)with
  | .error e=> .error e
  | .ok (k,ps)=> .ok ({ c with parts:=ps },⟨n.op,k,[]⟩)
def yi(c:Ck)(n:Nd):Except Er Ck:=
 if c.expo.isSome then .error (138,n.a)
 else match qV c.names n [zd,zv]with
  | .error e=> .error e
  | .ok m=> .ok { c with expo:=some m.node,ro:=decide (n.n=1)||(zX c.parts).getD m.node false,eat:=n.a }
def jx(c:Ck)(n:Nd):Except Er Ck:=
 if n.op=zM then yi c n
 else if(lk c.names n.s).isSome then .error (132,n.a)
 else if full c.names n.op then .error (137,n.a)
 else match jJ c n with
  | .error e=> .error e
  | .ok (c1,m)=> .ok { c1 with names:=c1.names++ [(n.s,m)] }
def jD:Ck→List Nd→Except Er Ck
 |c,[]=> .ok c
 |c,x::l=>match jx c x with
  | .error e=> .error e
  | .ok c1=>jD c1 l
def qh:Nat→List Nd→List Pt
 |_,[]=> []
 |d,x::l=>if x.op=zd then⟨1,x.n.toNat,[],d,0,0,[],[]⟩::qh (d+1) l else if x.op=zm then qh (d+1) l else qh d l
def jr(ps:List Pt)(p f c:Int):Bool:=decide (0≤p∧p<ps.length∧0≤f∧0<c∧f≤(sz ps p.toNat:Int)-c)
def vY(ps:List Pt)(g:List R3→Nat→Int→Int→List R3)(out:List R3)(p:Pt)(f c:Int):List R3:=
 if p.kind=1 then out++ [⟨p.dev,f,c⟩]
 else if p.kind=2 then p.kids.foldl (λo k=>g o k (f+p.first) c) out
 else if p.kind=4∨p.kind=6 then p.kids.foldl (λo k=>g o k f c) out
 else if p.kind=3 then(p.kids.foldl (λ(x:List R3×Int) k=>(g x.1 k (max (f-x.2) 0) (min (f+c-x.2) (sz ps k)-max (f-x.2) 0),x.2+sz ps k)) (out,0)).1
 else if p.kind=5 then g (g out (p.kids.getD 0 0) f c) (p.kids.getD 1 0) 0 (sz ps (p.kids.getD 1 0))
 else if p.kind=7∨p.kind=8 then g out (p.kids.getD 0 0) 0 (sz ps (p.kids.getD 0 0))
 else out
def vt(ps:List Pt):Nat→List R3→Nat→Int→Int→List R3
 |0,out,_,_,_=>out
 |d+1,out,k,f,c=>if 256<out.length∨jr ps k f c=false then out else vY ps (vt ps d) out (zI ps k) f c
def xO(ps:List Pt)(p f c:Int):List R3:=if jr ps p f c=false then[]else vt ps ps.length [] p.toNat f c
def ZV(l:List R3):Bool:=(List.range l.length).any λb=>(List.range b).any λa=>xI (l.getD a ⟨0,0,0⟩) (l.getD b ⟨0,0,0⟩)
structure JN where
 devs:List Nat
 jour:Nat
 parts:List Pt
 expo:Nat
 ro:Bool
def vK(c:Ck):Except Er JN:=match c.jour,c.expo with
 |some j,some x=>if 256<(xO c.parts x 0 (sz c.parts x)).length then .error (137,c.eat)
  else if ZV (xO c.parts x 0 (sz c.parts x))then .error (136,c.eat)
  else .ok ⟨c.devs,j,c.parts,x,c.ro⟩
 |_,_=> .error (138,0)
def XR(n:Nd):Except Er JN:=match jD ⟨[],none,qh 0 n.l,none,false,0,[]⟩ n.l with
 | .error e=> .error e
 | .ok c=>vK c
end
section
def yw(ps:List Pt)(k:Nat):Prop:=k<ps.length∧1≤sz ps k∧sz ps k≤8192
structure Dr (ps:List Pt) (p:Pt):Prop where
 kids:∀k ∈ p.kids,yw ps k
 some':p.kids≠ []
 lo:1≤p.size
 hi:p.size≤8192
 kind:2≤p.kind∧p.kind≤8
 lin:p.kind=2→p.first+p.size≤sz ps (p.kids.getD 0 0)
 cat:p.kind=3→p.size=(p.kids.map (sz ps)).sum
 mir:p.kind=4→∀k ∈ p.kids,sz ps k=p.size
 snap:p.kind=5→p.kids.length=2∧sz ps (p.kids.getD 0 0)=p.size
 cry:p.kind=6→sz ps (p.kids.getD 0 0)=p.size
 one:(p.kind=2∨p.kind=6∨p.kind=7∨p.kind=8)→p.kids.length=1
structure GZ (ps:List Pt) (p:Pt):Prop extends Dr ps p where
 four:p.kids.length≤4
 fst:p.first≤8192
def v7(ns:yq)(ps:List Pt):Prop:=∀x ∈ ns,((x.2.word=zd∨x.2.word=zv)→yw ps x.2.node)∧((x.2.word=qo∨x.2.word=zQ)→x.2.bytes.length=32)
theorem UB(ps qs:List Pt){k:Nat}(h:k<ps.length):zI (ps++qs) k=zI ps k:=by
 unfold zI;rw[List.getD_eq_getElem?_getD,List.getD_eq_getElem?_getD,List.getElem?_append_left h]
theorem YY(ps qs:List Pt)(p:Pt):zI (ps++p::qs) ps.length=p:=by
 unfold zI;rw[List.getD_eq_getElem?_getD,List.getElem?_append_right (Nat.le_refl _)];simp
theorem Yl(ps qs:List Pt){k:Nat}(h:k<ps.length):sz (ps++qs) k=sz ps k:=by unfold sz;rw[UB ps qs h]
theorem yw.more{ps:List Pt}{k:Nat}(h:yw ps k)(qs:List Pt):yw (ps++qs) k:=by
 refine⟨by have:=h.1;simp;omega,?_⟩;rw[Yl ps qs h.1];exact h.2
theorem v7.more{ns:yq}{ps:List Pt}(h:v7 ns ps)(qs:List Pt):v7 ns (ps++qs):=λx hx=>⟨λe=>((h x hx).1 e).more qs,(h x hx).2⟩
def Grown':List Pt→List Pt→Prop
 |_,[]=>True
 |ps,p::qs=>GZ ps p∧Grown' (ps++ [p]) qs
theorem Grown'.app{qs rs:List Pt}:∀ {ps:List Pt},Grown' ps qs→Grown' (ps++qs) rs→Grown' ps (qs++rs):=by
 induction qs with
 |nil=>intro ps _ h;simpa using h
 |cons q qs ih =>
  intro ps h1 h2;exact⟨h1.1,ih h1.2 (by simpa using h2)⟩
theorem DI{ns:yq}{s:List UInt8}{m:Mn}(h:lk ns s=some m):(s,m) ∈ ns:=by
 unfold lk at h;cases hf:ns.find? (λx=>x.1==s)with
 |none=>rw[hf]at h;cases h
 |some x =>
  rw[hf]at h;simp only[Option.map_some,Option.some.injEq]at h;have h1:=List.mem_of_find?_eq_some hf;have h2:=List.find?_some hf;simp only[beq_iff_eq]at h2;rw[←h2,←h];exact h1
theorem xX{ns:yq}{n:Nd}{ws:List (List UInt8)}{m:Mn}(h:qV ns n ws= .ok m):(n.s,m) ∈ ns∧m.word ∈ ws:=by
 unfold qV at h;cases hl:lk ns n.s with
 |none=>rw[hl]at h;cases h
 |some m' =>
  rw[hl]at h;simp only at h
  split at h
  ·rename_i hw
   cases h;refine⟨DI hl,?_⟩;simp only[List.any_eq_true,beq_iff_eq]at hw;obtain⟨y,hy,e⟩:=hw;rw[e];exact hy
  ·cases h
theorem ZS{ns:yq}{ps:List Pt}(hn:v7 ns ps){n:Nd}{m:Mn}(h:qV ns n [zd,zv]= .ok m):yw ps m.node:=by
 obtain⟨h1,h2⟩:=xX h;refine(hn _ h1).1 ?_
 simpa using h2
theorem UX{ns:yq}{ps:List Pt}(hn:v7 ns ps){n:Nd}{m:Mn}{w:List UInt8}(hw:w=qo∨w=zQ)(h:qV ns n [w]= .ok m):m.bytes.length=32:=by
 obtain⟨h1,h2⟩:=xX h;refine(hn _ h1).2 ?_;have :m.word=w:=by simpa using h2
 rw[this];exact hw
theorem Va{x:Nat}(h:¬x=0):1≤x:=by omega
theorem dy(n:Nat):dI n≤8192:=(Jb _ _).1
theorem dv(n:Nat):dV n≤2048:=(Jb _ _).1
structure Zu (n:Nd) (K:Nat):Prop where
 pos:1≤K
 lin:n.op=qL→K=1∧0≤(vh n.l 1).n∧0≤(vh n.l 2).n
 one:(n.op≠qK∧n.op≠ja∧n.op≠qt)→K=1
 snap:n.op=qt→K=2
theorem D3(f:Nat→Nat)(l:List Nat)(k:Nat)(h:k ∈ l):f k≤(l.map f).sum:=by
 induction l with
 |nil=>cases h
 |cons a l ih =>
  simp only[List.map_cons,List.sum_cons];rcases List.mem_cons.1 h with rfl|h'
  ·omega
  ·have:=ih h'
   omega
theorem Zj{l:List Nat}{k:Nat}(h:k<l.length):l.getD k 0 ∈ l:=by
 rw[List.getD_eq_getElem?_getD,List.getElem?_eq_getElem h];exact List.getElem_mem h
theorem ud{ns:yq}{ps:List Pt}{n:Nd}{ks:List Nat}{p:Pt}(hn:v7 ns ps)(hk:∀k ∈ ks,yw ps k)(hs:Zu n ks.length)(h:jy ns ps n ks= .ok p):Dr ps p∧p.kids=ks:=by
 have h0:ks≠ []:=by intro e;have:=hs.pos;rw[e]at this;simp at this
 have k0:yw ps (ks.getD 0 0):=hk _ (Zj (by have:=hs.pos;omega));unfold jy at h;by_cases e1:n.op=qL
 ·rw[if_pos e1]at h
  obtain⟨hl1,hl2,hl3⟩:=hs.lin e1
  split at h
  ·rename_i hc
   cases h;refine⟨⟨hk,h0,(by show 1≤Int.toNat _;omega),(by show Int.toNat _≤8192;have:=k0.2.2;omega),⟨by simp,by simp⟩,λ_=>?_,(by intro e;cases e),(by intro e;cases e),(by intro e;cases e),(by intro e;cases e),λ_=>hl1⟩,rfl⟩;show(vh n.l 1).n.toNat+(vh n.l 2).n.toNat≤sz ps (ks.getD 0 0);omega
  ·cases h
 ·rw[if_neg e1]at h
  by_cases e2:n.op=qK∨n.op=ja
  ·rw[if_pos e2]at h
   unfold ym at h
   split at h
   ·cases h
   ·split at h
    ·split at h
     ·rename_i hc
      cases h;refine⟨⟨hk,h0,?_,hc,⟨by simp,by simp⟩,(by intro e;cases e),λ_=>rfl,(by intro e;cases e),(by intro e;cases e),(by intro e;cases e),(by rintro(e|e|e|e)<;>cases e)⟩,rfl⟩;have:=D3 (sz ps) ks _ (Zj (k:=0) (by have:=hs.pos;omega));have:=k0.2.1;show 1≤(ks.map (sz ps)).sum;omega
     ·cases h
    ·split at h
     ·rename_i hc
      cases h;refine⟨⟨hk,h0,k0.2.1,k0.2.2,⟨by simp,by simp⟩,(by intro e;cases e),(by intro e;cases e),λ_ k hk'=>?_,(by intro e;cases e),(by intro e;cases e),(by rintro(e|e|e|e)<;>cases e)⟩,rfl⟩;have:=List.all_eq_true.1 hc k hk'
      simpa using this
     ·cases h
  ·rw[if_neg e2]at h
   by_cases e3:n.op=qt
   ·rw[if_pos e3]at h
    split at h
    ·cases h
    ·split at h
     ·cases h
     ·cases h
      exact⟨⟨hk,h0,k0.2.1,k0.2.2,⟨by simp,by simp⟩,(by intro e;cases e),(by intro e;cases e),(by intro e;cases e),λ_=>⟨hs.snap e3,rfl⟩,(by intro e;cases e),(by rintro(e|e|e|e)<;>cases e)⟩,rfl⟩
   ·rw[if_neg e3]at h
    have h1:ks.length=1:=hs.one ⟨λe=>e2 (.inl e),λe=>e2 (.inr e),e3⟩;unfold qD at h
    split at h
    ·split at h
     ·cases h
     ·split at h
      ·cases h
      ·cases h
       exact⟨⟨hk,h0,k0.2.1,k0.2.2,⟨by simp,by simp⟩,(by intro e;cases e),(by intro e;cases e),(by intro e;cases e),(by intro e;cases e),λ_=>rfl,λ_=>h1⟩,rfl⟩
    ·split at h
     ·split at h
      ·cases h
      ·split at h
       ·cases h
       ·rename_i hd
        have hD:=dy (sz ps (ks.getD 0 0));generalize dI (sz ps (ks.getD 0 0))=D at h hd hD;cases h;exact⟨⟨hk,h0,Va hd,hD,⟨by simp,by simp⟩,(by intro e;cases e),(by intro e;cases e),(by intro e;cases e),(by intro e;cases e),(by intro e;cases e),λ_=>h1⟩,rfl⟩
     ·split at h
      ·cases h
      ·split at h
       ·cases h
       ·rename_i hd
        have hD:=dv (sz ps (ks.getD 0 0));generalize dV (sz ps (ks.getD 0 0))=D at h hd hD;cases h;exact⟨⟨hk,h0,Va hd,Nat.le_trans hD (by decide),⟨by simp,by simp⟩,(by intro e;cases e),(by intro e;cases e),(by intro e;cases e),(by intro e;cases e),(by intro e;cases e),λ_=>h1⟩,rfl⟩
theorem UU{ns:yq}{ps:List Pt}{n:Nd}{ks:List Nat}{p:Pt}(hs:Zu n ks.length)(h:jy ns ps n ks= .ok p):ks.length≤4:=by
 by_cases h1:n.op=qK∨n.op=ja
 ·unfold jy at h
  rw[if_neg (by rcases h1 with e|e<;>rw[e]<;>decide),if_pos h1]at h;unfold ym at h;by_cases q:2≤ks.length∧ks.length≤4
  ·exact q.2
  ·rw[if_pos q]at h
   cases h
 ·by_cases h2:n.op=qt
  ·rw[hs.snap h2];decide
  ·rw[hs.one ⟨λe=>h1 (.inl e),λe=>h1 (.inr e),h2⟩];decide
theorem Y4{ns:yq}{ps:List Pt}{n:Nd}{ks:List Nat}{p:Pt}(hs:Zu n ks.length)(k0:yw ps (ks.getD 0 0))(h:jy ns ps n ks= .ok p):p.first≤8192:=by
 unfold jy at h;by_cases e1:n.op=qL
 ·rw[if_pos e1]at h
  obtain⟨hl1,hl2,hl3⟩:=hs.lin e1
  split at h
  ·rename_i hc
   cases h;show Int.toNat _≤8192;have:=k0.2.2;omega
  ·cases h
 ·rw[if_neg e1]at h
  unfold ym qD at h
  repeat' split at h
  all_goals first
   |cases h;done
   |(cases h;exact Nat.zero_le _)
theorem XC{ns:yq}{ps:List Pt}{n:Nd}{ks:List Nat}{p:Pt}(hn:v7 ns ps)(hk:∀k ∈ ks,yw ps k)(hs:Zu n ks.length)(h:jy ns ps n ks= .ok p):GZ ps p∧p.kids=ks:=by
 obtain⟨h1,h2⟩:=ud hn hk hs h;exact⟨⟨h1,by rw[h2];exact UU hs h,Y4 hs (hk _ (Zj (by have:=hs.pos;omega))) h⟩,h2⟩
theorem YR{f:List Pt→Nd→Except Er (Nat×List Pt)}(l:List Nd):∀ {ps:List Pt} {ks:List Nat} {p':List Pt},(∀qs x,x ∈ l→∀k p1,f (ps++qs) x= .ok (k,p1)→∃rs,p1=ps++qs++rs∧yw p1 k∧Grown' (ps++qs) rs)→jg f ps l= .ok (ks,p')→∃rs,p'=ps++rs∧(∀k ∈ ks,yw p' k)∧Grown' ps rs∧ks.length=l.length:=by
 induction l with
 |nil =>
  intro ps ks p' _ h;cases h;exact⟨[],by simp,(λk hk=>by cases hk),trivial,rfl⟩
 |cons x l ih =>
  intro ps ks p' hf h;unfold jg at h;cases h1:f ps x with
  |error e=>rw[h1]at h;cases h
  |ok r =>
   obtain⟨k,p1⟩:=r;rw[h1]at h;simp only at h;cases h2:jg f p1 l with
   |error e=>rw[h2]at h;cases h
   |ok r2 =>
    obtain⟨ks2,p2⟩:=r2;rw[h2]at h;cases h;obtain⟨rs,e1,hk1,hg1⟩:=hf [] x List.mem_cons_self k p1 (by simpa using h1);simp only[List.append_nil]at e1 hg1;subst e1
    obtain⟨rs2,e2,hk2,hg2,hl⟩:=ih (ps:=ps++rs) (λqs y hy k p1 hr=>by
     have:=hf (rs++qs) y (List.mem_cons_of_mem _ hy) k p1 (by simpa using hr)
     simpa using this) h2
    subst e2;refine⟨rs++rs2,by simp,λj hj=>?_,hg1.app (by simpa using hg2),by simp[hl]⟩;rcases List.mem_cons.1 hj with rfl|hj'
    ·exact hk1.more rs2
    ·exact hk2 j hj'
inductive Fd:Nat→Nd→Prop where
 |use (d:Nat) (n:Nd):n.op=jE→Fd (d+1) n
 |mk (d:Nat) (n:Nd):n.op≠jE→Zu n (jb n).length→(∀x ∈ jb n,Fd d x)→Fd (d+1) n
theorem Jf{ns:yq}(d:Nat):∀ {ps:List Pt} {n:Nd} {k:Nat} {p':List Pt},v7 ns ps→Fd d n→jh ns d ps n= .ok (k,p')→∃rs,p'=ps++rs∧yw p' k∧Grown' ps rs:=by
 induction d with
 |zero=>intro ps n k p' _ _ h;cases h
 |succ d ih =>
  intro ps n k p' hn hx h;unfold jh at h;cases hx with
  |use _ _ e =>
   rw[if_pos e]at h;cases hk:qV ns n [zd,zv]with
   |error e=>rw[hk]at h;cases h
   |ok m =>
    rw[hk]at h;cases h;exact⟨[],by simp,ZS hn hk,trivial⟩
  |mk _ _ e hs hl =>
   rw[if_neg e]at h;cases hc:jg (jh ns d) ps (jb n)with
   |error e=>rw[hc]at h;cases h
   |ok r =>
    obtain⟨ks,p1⟩:=r;rw[hc]at h;simp only at h
    obtain⟨rs,e1,hk1,hg1,hlen⟩:=YR (jb n) (λqs x hx k p1 hr=>by
     obtain⟨rs,e,h1,h2⟩:=ih (hn.more qs) (hl x hx) hr
     exact⟨rs,e,h1,h2⟩) hc
    subst e1
    split at h
    ·cases h
    ·cases hp:jy ns (ps++rs) n ks with
     |error e=>rw[hp]at h;cases h
     |ok p =>
      rw[hp]at h;cases h;obtain⟨hp1,hp2⟩:=XC (hn.more rs) hk1 (by rw[hlen];exact hs) hp;refine⟨rs++ [p],by simp,⟨by simp,?_⟩,hg1.app ⟨hp1,trivial⟩⟩;unfold sz;rw[YY];exact⟨hp1.lo,hp1.hi⟩
end
section
open Go.ChangeShapes Go.WideShapes Go.ChangeAt Go.RowKit
theorem qi{a b:Bool}(h:a=b):Ending.returned (.bool a)= .returned (.bool b):=by rw[h]
theorem Vv(c:UInt8)(k:Nat)(hk:k<256):(c==UInt8.ofNat k)=decide ((c.toNat:Int)=(k:Int)):=by
 rw[Bool.eq_iff_iff];simp only[beq_iff_eq,decide_eq_true_eq];constructor
 ·rintro rfl;simp;omega
 ·intro h
  apply UInt8.toNat_inj.1;simp;omega
theorem Jl(c:UInt8):qX c=(decide ((c.toNat:Int)=9)||decide ((c.toNat:Int)=10)||decide ((c.toNat:Int)=13)||decide ((c.toNat:Int)=32)):=by
 have h1:=Vv c 9 (by decide);have h2:=Vv c 10 (by decide);have h3:=Vv c 13 (by decide);have h4:=Vv c 32 (by decide);unfold qX;exact congr (congrArg or (congr (congrArg or (congr (congrArg or h1) h2)) h3)) h4
theorem Jt(c:UInt8):qI c= !decide ((c.toNat:Int)=10):=congrArg not (Vv c 10 (by decide))
theorem Jh(c:UInt8):zn c=(decide (48≤(c.toNat:Int))&&decide ((c.toNat:Int)≤57)):=by
 unfold zn;congr 1<;>exact decide_eq_decide.2 (by omega)
theorem Y7(c:UInt8):zL c=(decide (97≤(c.toNat:Int))&&decide ((c.toNat:Int)≤122)):=by
 unfold zL;congr 1<;>exact decide_eq_decide.2 (by omega)
theorem Jk(c:UInt8):j4 c=(zL c||decide ((c.toNat:Int)=95)):=by
 unfold j4;exact congrArg (or (zL c)) (Vv c 95 (by decide))
theorem YN(c:UInt8):zq c=(zn c||(decide (97≤(c.toNat:Int))&&decide ((c.toNat:Int)≤102))):=by
 unfold zq;congr 2<;>exact decide_eq_decide.2 (by omega)
def xZ(f:Nat)(p:UInt8→Bool):Prop:=∀(c:UInt8) (w:World),Calls Tryz.prog f #[.int .u8 (c.toNat:Int)] w λe w'=>e= .returned (.bool (p c))∧w'=w
theorem Xp:xZ 97 qX:=by
 intro c w;go_enter Tryz.func97,Tryz.ntmps97
 go_wp2
 all_goals
  go_ret
  refine⟨qi ?_,rfl⟩;rw[Jl,Bool.eq_iff_iff];simp
  try omega
theorem X6:xZ 99 qI:=by
 intro c w;go_enter Tryz.func99,Tryz.ntmps99
 go_wp2
 all_goals
  go_ret
  refine⟨qi ?_,rfl⟩;rw[Jt,Bool.eq_iff_iff];simp
  try omega
theorem zY:xZ 102 zn:=by
 intro c w;go_enter Tryz.func102,Tryz.ntmps102
 go_wp2
 all_goals
  go_ret
  refine⟨qi ?_,rfl⟩;rw[Jh,Bool.eq_iff_iff];simp
  try omega
theorem qn:xZ 100 zL:=by
 intro c w;go_enter Tryz.func100,Tryz.ntmps100
 go_wp2
 all_goals
  go_ret
  refine⟨qi ?_,rfl⟩;rw[Y7,Bool.eq_iff_iff];simp
  try omega
theorem vO:xZ 105 j4:=by
 intro c w;rw[Jk];have hs:=qn c;cases e:zL c
 all_goals
  rw[e]at hs;clear e;go_enter Tryz.func105,Tryz.ntmps105
  go_wp2_with (go_at_call 100;refine(hs _).mono ?_;rintro e w' ⟨rfl,rfl⟩)
  all_goals
   go_ret
   refine⟨qi ?_,rfl⟩;rw[Bool.eq_iff_iff];simp
   try omega
theorem KA:xZ 127 zN:=by
 intro c w;unfold zN;have hs:=vO c;have hf:=zY c;generalize zn c=b at hf ⊢;cases e:j4 c
 all_goals
  rw[e]at hs;clear e;go_enter Tryz.func127,Tryz.ntmps127
  go_wp2_with (first
   |(go_at_call 105;refine(hs _).mono ?_;rintro e w' ⟨rfl,rfl⟩)
   |(go_at_call 102;refine(hf _).mono ?_;rintro e w' ⟨rfl,rfl⟩))
  all_goals
   go_ret
   exact⟨qi (by simp),rfl⟩
theorem un:xZ 129 zq:=by
 intro c w;rw[YN];have hf:=zY c;cases e:zn c
 all_goals
  rw[e]at hf;clear e;go_enter Tryz.func129,Tryz.ntmps129
  go_wp2_with (go_at_call 102;refine(hf _).mono ?_;rintro e w' ⟨rfl,rfl⟩)
  all_goals
   go_ret
   refine⟨qi ?_,rfl⟩;rw[Bool.eq_iff_iff];simp
   try omega
abbrev pt(p:Nat):Value:= .pointer (some ⟨p,0,none⟩)
def bs(l:List UInt8):ByteArray:=⟨l.toArray⟩
theorem zx(l:List UInt8):(bs l).size=l.length:=by simp[bs,ByteArray.size]
theorem zD(l:List UInt8)(k:Nat)(h:k<(bs l).size):(bs l)[k]'h=l[k]'(by rw[zx]at h;exact h):=by simp[bs,ByteArray.getElem_eq_getElem_data]
theorem qA(l:List UInt8)(a b:Nat):(bs l).extract a b=bs ((l.drop a).take (b-a)):=ByteArray.extract_mk l a b
structure qH (w w':World) (P j:Nat):Prop where
 has:zh w' P 3 #[.int .i64 (j:Nat)]
 size:w'.heap.size=w.heap.size
 grown:w.grownBy w' (some P)
theorem qH.other{w w':World}{P j g t:Nat}{cs:Array Value}(h:qH w w' P j)(hg:zh w g t cs)(hne:g≠P):zh w' g t cs:=
 (h.grown.block g hg.lt (λe=>hne (by injection e))).trans hg
theorem qH.below{w w':World}{P j B:Nat}(h:qH w w' P j)(hB:B≤P)(hw:B≤w.heap.size):Below B w w':=
 ⟨h.grown.os,h.grown.tape,h.grown.output,h.grown.size,λk hk=>h.grown.block k (by omega) (λe=>by injection e;omega)⟩
theorem qH.refl{w:World}{P j:Nat}(h:zh w P 3 #[.int .i64 (j:Nat)]):qH w w P j:=⟨h,rfl,VL _ _⟩
theorem qH.drewN{w w':World}{P j:Nat}(h:qH w w' P j)(m:Nat):qH w (w'.drewN m) P j:=⟨h.has.drewN m,h.size,⟨h.grown.os,h.grown.tape,h.grown.output,h.grown.size,h.grown.block⟩⟩
theorem qH.set{w w':World}{P j:Nat}(h:qH w w' P j)(k:Nat):qH w (w'.setCell ⟨P,0,none⟩ (.int .i64 (k:Nat))) P k:=by
 have hh:w'.heap[P]?=some (.cells #[.int .i64 (j:Nat)] 3 (0,0)):=h.has;refine⟨?_,?_,?_⟩
 ·show(w'.setCell ⟨P,0,none⟩ _).heap[P]?=_
  simp[World.setCell,Array.getElem?_modify,hh]
 ·simp[World.setCell,h.size]
 ·refine⟨h.grown.os,h.grown.tape,h.grown.output,by simp[World.setCell,h.grown.size],λg hg hne=>?_⟩
  rw[←h.grown.block g hg hne];exact Below.heap_setCell w' ⟨P,0,none⟩ _ g (λe=>hne (by rw[e]))
theorem qH.trans{w w' w'':World}{P j k:Nat}(h:qH w w' P j)(h':qH w' w'' P k):qH w w'' P k:=
 ⟨h'.has,h'.size.trans h.size,⟨h'.grown.os.trans h.grown.os,h'.grown.tape.trans h.grown.tape,h'.grown.output.trans h.grown.output,by rw[h'.size,h.size];exact Nat.le_refl _,λg hg hne=>(h'.grown.block g (by rw[h.size];exact hg) hne).trans (h.grown.block g hg hne)⟩⟩
def xf(w:World)(P:Nat)(l:List UInt8)(i n:Nat)(e:Ending)(w':World):Prop:=e= .returned (.string (bs ((l.drop i).take n)))∧qH w w' P (i+n)
theorem yH{p:UInt8→Bool}{l:List UInt8}{i k:Nat}(hk:k≤zy p (l.drop i))(h:i+k<l.length):k<zy p (l.drop i)↔p (l[i+k])=true:=by
 induction k generalizing i with
 |zero =>
  rw[List.drop_eq_getElem_cons (by omega),qG];simp only[Nat.add_zero]
  split<;>simp_all
 |succ k ih =>
  rw[List.drop_eq_getElem_cons (by omega),qG]at hk ⊢
  split at hk
  ·rename_i hp
   rw[if_pos hp];have:=ih (i:=i+1) (by omega) (by omega);have e:l[i+(k+1)]=l[i+1+k]:=by congr 1;omega
   rw[e];constructor
   ·intro hh;exact this.1 (by omega)
   ·intro hh;have:=this.2 hh;omega
  ·omega
theorem yy{p:UInt8→Bool}{l:List UInt8}{i k:Nat}(hk:k≤zy p (l.drop i))(h:¬i+k<l.length)(hi:i≤l.length):k=zy p (l.drop i):=by
 have:=vf p (l.drop i);rw[List.length_drop]at this;omega
theorem vU{p:UInt8→Bool}{l:List UInt8}{i k:Nat}(hk:k≤zy p (l.drop i))(h:i+k<l.length)(hp:p (l[i+k])=false):k=zy p (l.drop i):=by
 have:=(yH hk h)
 rw[hp]at this;simp at this;omega
theorem vq{w wr:World}{P i k J n:Nat}{l:List UInt8}(hJ:J=i+k)(hn:k=n)(hm:qH w wr P (i+k)):xf w P l i n (.returned (.string ((bs l).extract i J))) wr:=by
 subst hJ hn;refine⟨?_,hm⟩;rw[qA,Nat.add_sub_cancel_left]
theorem yE{w wr:World}{P i k J:Nat}(hJ:J=i+k)(hm:qH w wr P (i+k)):qH w (wr.setCell ⟨P,0,none⟩ (.int .i64 ((J:Int)+1))) P (i+(k+1)):=by
 have:=hm.set (i+(k+1));rw[show((i+(k+1):Nat):Int)=(J:Int)+1 by omega]at this;exact this
def atP(wr:World)(P:Nat):Nat:=match wr.cell? ⟨P,0,none⟩with |some (.int _ z)=>z.toNat|_=>0
theorem VC{w wr:World}{P j:Nat}(hm:qH w wr P j):atP wr P=j:=by
 have :wr.cell? ⟨P,0,none⟩=some (.int .i64 (j:Nat)):=hm.has.cell 0;simp[atP,this]
theorem xl{w wr:World}{P i k J:Nat}{l:List UInt8}(hJ:J=i+k)(hm:qH w wr P (i+k))(h:J≤2000)(hlt:i+k<l.length)(hl:l.length≤2000):2000-atP (wr.setCell ⟨P,0,none⟩ (.int .i64 ((J:Int)+1))) P<2000-atP wr P:=by
 rw[VC hm,VC (yE hJ hm)];omega
theorem Jo{w:World}{P Q S i:Nat}(l:List UInt8)(hP:zh w P 3 #[.int .i64 (i:Nat)])(hQ:zh w Q 146 #[pt P])(hS:zh w S 9 #[.string (bs l)])(hQP:Q≠P)(hSP:S≠P)(hi:i≤l.length)(hl:l.length≤2000):
 Calls Tryz.prog 125 #[.func (.func 97) #[] #[],pt Q,pt S] w (xf w P l i (zy qX (l.drop i))):=by
 have hsz:=zx l;have p0:w.cell? ⟨P,0,none⟩=some (.int .i64 (i:Nat)):=hP.cell 0;have q0:w.cell? ⟨Q,0,none⟩=some (pt P):=hQ.cell 0;have hi2:i≤2000:=by omega
 have HS:Hid ((bs l).size=l.length):=hsz;clear hsz;go_enter Tryz.func125,Tryz.ntmps125
 go_wp2
 go_loopw [] (λwr=>∃k:Nat,k≤zy qX (l.drop i)∧i+k≤l.length∧qH w wr P (i+k)) (λwr=>2000-atP wr P)
 case atStart=>exact⟨0,Nat.zero_le _,by omega,qH.refl hP⟩
 case round =>
  obtain⟨k,hk,hkl,hm⟩:=hrel;have p1:wr.cell? ⟨P,0,none⟩=some (.int .i64 ((i+k:Nat):Int)):=hm.has.cell 0;have q1:wr.cell? ⟨Q,0,none⟩=some (pt P):=(hm.other hQ hQP).cell 0;have s1:wr.cell? ⟨S,0,none⟩=some (.string (bs l)):=(hm.other hS hSP).cell 0;have f1:wr.frozen? ⟨P,0,none⟩=false:=hm.has.free 0
  obtain⟨J,hJ⟩:∃J,J=i+k:=⟨_,rfl⟩
  rw[←hJ]at p1;have HJ:Hid (J=i+k):=hJ;clear hJ p0 q0;have hJ2:J≤2000:=by have:=HJ.out;omega
  by_cases hlt:i+k<l.length
  ·have h1:J<(bs l).size:=by rw[HS.out,HJ.out];exact hlt
   have h2:((J:Nat):Int)<((bs l).size:Int):=by omega
   have hget:(bs l)[J]'h1=l[i+k]:=by rw[zD];simp only[HJ.out]
   have ht:=λW=>Xp ((bs l)[J]'h1) W
   cases hc:qX (l[i+k])
   ·have hb:qX ((bs l)[J]'h1)=false:=by rw[hget];exact hc
    rw[hb]at ht;have hn:=vU hk hlt hc;have HN:Hid (k=zy qX (l.drop i)):=hn;clear hn hb hget hc;have b1:((i:Nat):Int)≤((J:Nat):Int):=by have:=HJ.out;omega
    have b2:((J:Nat):Int)≤((bs l).size:Int):=by omega
    go_wp2_with fail
    go_quiet ((go_at_call 97;exact Calls.quiet_of_same (ht _)))
    go_wp2
    go_quiet (fail)
    go_wp2
    go_ret
    exact vq HJ.out HN.out ((hm.drewN _).drewN _)
   ·have hb:qX ((bs l)[J]'h1)=true:=by rw[hget];exact hc
    rw[hb]at ht;have hn:=(yH hk hlt).2 hc;clear hb hget hc
    go_wp2_with fail
    go_quiet ((go_at_call 97;exact Calls.quiet_of_same (ht _)))
    go_wp2
    go_roundw
    case rel=>exact⟨k+1,hn,by omega,yE HJ.out (hm.drewN _)⟩
    case measure=>exact xl HJ.out (hm.drewN _) hJ2 hlt hl
  ·have h1:decide (J<(bs l).size)=false:=by rw[decide_eq_false_iff_not,HS.out,HJ.out];omega
   have h2:decide (((J:Nat):Int)<((bs l).size:Int))=false:=by rw[decide_eq_false_iff_not,HS.out,HJ.out];omega
   have hn:=yy hk hlt hi;have HN:Hid (k=zy qX (l.drop i)):=hn;have b1:((i:Nat):Int)≤((J:Nat):Int):=by have:=HJ.out;omega
   have b2:((J:Nat):Int)≤((bs l).size:Int):=by rw[HS.out,HJ.out];omega
   clear hn
   go_wp2_with fail
   go_quiet (fail)
   go_wp2
   go_quiet (fail)
   go_wp2
   go_ret
   exact vq HJ.out HN.out ((hm.drewN _).drewN _)
theorem UK{w:World}{P Q S i:Nat}(l:List UInt8)(hP:zh w P 3 #[.int .i64 (i:Nat)])(hQ:zh w Q 146 #[pt P])(hS:zh w S 9 #[.string (bs l)])(hQP:Q≠P)(hSP:S≠P)(hi:i≤l.length)(hl:l.length≤2000):
 Calls Tryz.prog 125 #[.func (.func 99) #[] #[],pt Q,pt S] w (xf w P l i (zy qI (l.drop i))):=by
 have hsz:=zx l;have p0:w.cell? ⟨P,0,none⟩=some (.int .i64 (i:Nat)):=hP.cell 0;have q0:w.cell? ⟨Q,0,none⟩=some (pt P):=hQ.cell 0;have hi2:i≤2000:=by omega
 have HS:Hid ((bs l).size=l.length):=hsz;clear hsz;go_enter Tryz.func125,Tryz.ntmps125
 go_wp2
 go_loopw [] (λwr=>∃k:Nat,k≤zy qI (l.drop i)∧i+k≤l.length∧qH w wr P (i+k)) (λwr=>2000-atP wr P)
 case atStart=>exact⟨0,Nat.zero_le _,by omega,qH.refl hP⟩
 case round =>
  obtain⟨k,hk,hkl,hm⟩:=hrel;have p1:wr.cell? ⟨P,0,none⟩=some (.int .i64 ((i+k:Nat):Int)):=hm.has.cell 0;have q1:wr.cell? ⟨Q,0,none⟩=some (pt P):=(hm.other hQ hQP).cell 0;have s1:wr.cell? ⟨S,0,none⟩=some (.string (bs l)):=(hm.other hS hSP).cell 0;have f1:wr.frozen? ⟨P,0,none⟩=false:=hm.has.free 0
  obtain⟨J,hJ⟩:∃J,J=i+k:=⟨_,rfl⟩
  rw[←hJ]at p1;have HJ:Hid (J=i+k):=hJ;clear hJ p0 q0;have hJ2:J≤2000:=by have:=HJ.out;omega
  by_cases hlt:i+k<l.length
  ·have h1:J<(bs l).size:=by rw[HS.out,HJ.out];exact hlt
   have h2:((J:Nat):Int)<((bs l).size:Int):=by omega
   have hget:(bs l)[J]'h1=l[i+k]:=by rw[zD];simp only[HJ.out]
   have ht:=λW=>X6 ((bs l)[J]'h1) W
   cases hc:qI (l[i+k])
   ·have hb:qI ((bs l)[J]'h1)=false:=by rw[hget];exact hc
    rw[hb]at ht;have hn:=vU hk hlt hc;have HN:Hid (k=zy qI (l.drop i)):=hn;clear hn hb hget hc;have b1:((i:Nat):Int)≤((J:Nat):Int):=by have:=HJ.out;omega
    have b2:((J:Nat):Int)≤((bs l).size:Int):=by omega
    go_wp2_with fail
    go_quiet ((go_at_call 99;exact Calls.quiet_of_same (ht _)))
    go_wp2
    go_quiet (fail)
    go_wp2
    go_ret
    exact vq HJ.out HN.out ((hm.drewN _).drewN _)
   ·have hb:qI ((bs l)[J]'h1)=true:=by rw[hget];exact hc
    rw[hb]at ht;have hn:=(yH hk hlt).2 hc;clear hb hget hc
    go_wp2_with fail
    go_quiet ((go_at_call 99;exact Calls.quiet_of_same (ht _)))
    go_wp2
    go_roundw
    case rel=>exact⟨k+1,hn,by omega,yE HJ.out (hm.drewN _)⟩
    case measure=>exact xl HJ.out (hm.drewN _) hJ2 hlt hl
  ·have h1:decide (J<(bs l).size)=false:=by rw[decide_eq_false_iff_not,HS.out,HJ.out];omega
   have h2:decide (((J:Nat):Int)<((bs l).size:Int))=false:=by rw[decide_eq_false_iff_not,HS.out,HJ.out];omega
   have hn:=yy hk hlt hi;have HN:Hid (k=zy qI (l.drop i)):=hn;have b1:((i:Nat):Int)≤((J:Nat):Int):=by have:=HJ.out;omega
   have b2:((J:Nat):Int)≤((bs l).size:Int):=by rw[HS.out,HJ.out];omega
   clear hn
   go_wp2_with fail
   go_quiet (fail)
   go_wp2
   go_quiet (fail)
   go_wp2
   go_ret
   exact vq HJ.out HN.out ((hm.drewN _).drewN _)
end
section
def vj(x:List UInt8):Bool:=x.take 2== [47,47]
theorem Vs(x:List UInt8):qM false x=zy qX x+qM false (x.drop (zy qX x)):=by
 induction x with
 |nil=>rfl
 |cons c t ih =>
  rw[qG];by_cases h:qX c=true
  ·rw[if_pos h,List.drop_succ_cons]
   simp only[qM,if_pos h];omega
  ·rw[if_neg h]
   simp
theorem uP(x:List UInt8):qM true x=zy qI x+qM false (x.drop (zy qI x)):=by
 induction x with
 |nil=>rfl
 |cons c t ih =>
  rw[qG];by_cases h:qI c=true
  ·have hc:(c==10)=false:=by simpa [qI]using h
   rw[if_pos h,List.drop_succ_cons];simp only[qM,hc];simp;omega
  ·have hc:(c==10)=true:=by simpa [qI]using h
   have hc':=eq_of_beq hc;subst hc';simp[qM,qI,qX]
theorem Y8(p:UInt8→Bool)(x:List UInt8):zy p (x.drop (zy p x))=0:=by
 induction x with
 |nil=>rfl
 |cons c t ih =>
  rw[qG];by_cases h:p c=true
  ·rw[if_pos h,List.drop_succ_cons];exact ih
  ·rw[if_neg h,List.drop_zero,qG,if_neg h]
theorem fH{x:List UInt8}(h:vj x=true):∃t,x=47::47::t:=by
 match x,h with
 | [],h=>cases h
 | [a],h=>simp[vj]at h
 |a::b::t,h=>simp[vj]at h;exact⟨t,by rw[h.1,h.2]⟩
theorem ZI{x:List UInt8}(h:vj x=true):qM false x=zy qI x+qM false (x.drop (zy qI x))∧2≤zy qI x:=by
 obtain⟨t,rfl⟩:=fH h;constructor
 ·rw[←uP]
  simp[qM,qX]
 ·rw[qG,qG]
  simp[qI]
theorem XL{x:List UInt8}(h:zy qX x=0)(hn:vj x=false):qM false x=0:=by
 match x,h,hn with
 | [],_,_=>rfl
 |c::t,h,hn =>
  have hb:qX c=false:=by
   rw[qG]at h;cases e:qX c
   ·rfl
   ·rw[e]at h;simp at h
  simp only[qM,hb]
  have :(c==47&&t.head?==some 47)=false:=by
   cases t with
   |nil=>simp
   |cons d u =>
    simp[vj]at hn;simp;exact hn
  simp[this]
end
section
open Go.ChangeShapes Go.WideShapes Go.ChangeAt Go.RowKit
theorem Ue{f:FuncId}{args:Array Value}{w:World}{R:Ending→World→Prop}(i:Nat)(v:Value)(h:args[i]?=some v)(k:Calls Tryz.prog f args w R):Calls Tryz.prog f args w R:=k
theorem Ho(fn:Fn)(first cap:Array Value)(w:World):(Instr.makeFunc fn first cap).run Tryz.prog w= .ok (.func fn first cap) w:=rfl
theorem qP(w:World)(s:ByteArray)(P:Nat):Calls Tryz.prog 96 #[.string s,pt P] w λe w'=>e= .returned (.func (.func 125) #[] #[pt (w.heap.size+1),pt w.heap.size])∧w'=(w.alloc (.cells #[.string s] 9)).alloc (.cells #[pt P] 146):=by
 have h0:=Ho;go_enter Tryz.func96,Tryz.ntmps96
 go_wp2
 go_ret
 exact⟨rfl,rfl⟩
theorem zr(x:List UInt8):(bs x).toList=x:=ByteArray.toList_mk x
theorem JE(x:List UInt8)(w:World)(hx:x.length≤2000):Calls Tryz.prog 126 #[.string (bs x),.string ⟨#[47,47]⟩] w λe w'=>e= .returned (.bool (vj x))∧w'=w:=by
 have hs:=zx x;by_cases h2:2≤x.length
 ·have h3:(2:Int)≤((bs x).size:Int):=by omega
  have HS:Hid ((bs x).size=x.length):=hs;clear hs;go_enter Tryz.func126,Tryz.ntmps126
  go_wp2
  go_ret
  refine⟨qi ?_,rfl⟩;rw[qA,zr];rfl
 ·have h3:¬(2:Int)≤((bs x).size:Int):=by omega
  have HS:Hid ((bs x).size=x.length):=hs;clear hs;go_enter Tryz.func126,Tryz.ntmps126
  go_wp2
  go_ret
  refine⟨qi ?_,rfl⟩;unfold vj;rw[List.take_of_length_le (by omega)]
  cases e:(x== [47,47])
  ·rfl
  ·rw[eq_of_beq e]at h2;simp at h2
theorem YL(x:List UInt8)(w:World)(hx:x.length≤2000):Calls Tryz.prog 98 #[.string (bs x),.string ⟨#[47,47]⟩] w λe w'=>e= .returned (.bool (vj x))∧w'=w:=by
 go_enter Tryz.func98,Tryz.ntmps98
 go_wp2_with (go_at_call 126;refine(JE _ _ hx).mono ?_;rintro e w' ⟨rfl,rfl⟩)
 go_ret
 exact⟨rfl,rfl⟩
structure XO (w0 w:World) (P Q S j:Nat) (l:List UInt8):Prop where
 at_:zh w P 3 #[.int .i64 (j:Nat)]
 q:zh w Q 146 #[pt P]
 s:zh w S 9 #[.string (bs l)]
 qp:Q≠P
 sp:S≠P
 le:j≤l.length
 below:Below w0.heap.size w0 w
 old:w0.heap.size≤P
theorem XO.moved{w0 w w':World}{P Q S j k:Nat}{l:List UInt8}(h:XO w0 w P Q S j l)(hm:qH w w' P k)(hk:k≤l.length):XO w0 w' P Q S k l:=
 ⟨hm.has,hm.other h.q h.qp,hm.other h.s h.sp,h.qp,h.sp,hk,h.below.trans (hm.below h.old (by have:=h.below.size;omega)),h.old⟩
theorem XO.atP{w0 w:World}{P Q S j:Nat}{l:List UInt8}(h:XO w0 w P Q S j l):atP w P=j:=VC (qH.refl h.at_)
theorem y7{l:List UInt8}{p:UInt8→Bool}{j:Nat}(h:j≤l.length):j+zy p (l.drop j)≤l.length:=by
 have:=vf p (l.drop j);rw[List.length_drop]at this;omega
theorem fA(l:List UInt8)(j:Nat):(bs l).extract j (bs l).size=bs (l.drop j):=by
 rw[qA,zx,List.take_of_length_le (by rw[List.length_drop];omega)]
def ZP(w wr:World)(P Q S i j:Nat)(l:List UInt8):Prop:=XO w wr P Q S j l∧i≤j∧i+qM false (l.drop i)=j+qM false (l.drop j)∧zy qX (l.drop j)=0
theorem ZP.first{w W0 wr:World}{P Q S i:Nat}{l:List UInt8}(h:XO w W0 P Q S i l)(hm:qH W0 wr P (i+zy qX (l.drop i))):ZP w wr P Q S i (i+zy qX (l.drop i)) l:=by
 refine⟨h.moved hm (y7 h.le),by omega,?_,?_⟩
 ·have:=Vs (l.drop i)
  rw[List.drop_drop]at this;omega
 ·rw[←List.drop_drop]
  exact Y8 _ _
theorem ZP.next{w wr w1 w2:World}{P Q S i j:Nat}{l:List UInt8}(h:ZP w wr P Q S i j l)(hn:vj (l.drop j)=true)(hm:qH wr w1 P (j+zy qI (l.drop j)))
 (hm2:qH w1 w2 P (j+zy qI (l.drop j)+zy qX (l.drop (j+zy qI (l.drop j))))):ZP w w2 P Q S i (j+zy qI (l.drop j)+zy qX (l.drop (j+zy qI (l.drop j)))) l:=by
 obtain⟨hC,h1,h2,h3⟩:=h;have hle:=y7 (p:=qI) hC.le;refine⟨(hC.moved hm hle).moved hm2 (y7 hle),by omega,?_,?_⟩
 ·have e1:=(ZI hn).1
  have e2:=Vs (l.drop (j+zy qI (l.drop j)));rw[List.drop_drop]at e1 e2;omega
 ·rw[←List.drop_drop]
  exact Y8 _ _
theorem YV(w:World)(l:List UInt8)(i:Nat)(hi:i≤l.length)(hl:l.length≤2000):Calls Tryz.prog 65 #[.string (bs l),.int .i64 (i:Nat)] w λe w'=>e= .returned (.int .i64 ((i+qM false (l.drop i):Nat):Int))∧Below w.heap.size w w':=by
 have hsz:=zx l;have HS:Hid ((bs l).size=l.length):=hsz;clear hsz
 have hC:XO w (((w.alloc (.cells #[.int .i64 (i:Nat)] 3)).alloc (.cells #[.string (bs l)] 9)).alloc (.cells #[pt w.heap.size] 146)) w.heap.size (w.heap.size+1+1) (w.heap.size+1) i l:=
  ⟨((zh.new _ _ _).alloc _).alloc _,zh.new_at (by simp),(zh.new_at (by simp)).alloc _,by omega,by omega,hi,(((Below.refl _ _).alloc (Nat.le_refl _) _).alloc (by simp) _).alloc (by simp;omega) _,Nat.le_refl _⟩
 have ht:=Jo l hC.at_ hC.q hC.s hC.qp hC.sp hC.le hl;go_enter Tryz.func65,Tryz.ntmps65
 go_wp2_with (first
  |(go_at_call 96;refine(qP _ _ _).mono ?_;rintro e w' ⟨rfl,rfl⟩)
  |(go_at_call 125;refine ht.mono ?_;rintro e w1 ⟨rfl,hm⟩))
 have hA:=ZP.first hC hm;clear hm hC ht
 go_loopw [] (λwr=>∃j,ZP w wr w.heap.size (w.heap.size+1+1) (w.heap.size+1) i j l) (λwr=>2000-atP wr w.heap.size)
 case atStart=>exact⟨_,hA⟩
 case round =>
  clear hA;obtain⟨j,hA⟩:=hrel;have hC:=hA.1;have p1:wr.cell? ⟨w.heap.size,0,none⟩=some (.int .i64 (j:Nat)):=hC.at_.cell 0;have hj2:j≤2000:=by have:=hC.le;omega
  have b2:((j:Nat):Int)≤((bs l).size:Int):=by rw[HS.out];have:=hC.le;omega
  have hp:=λW=>YL (l.drop j) W (by rw[List.length_drop];omega)
  rw[←fA]at hp;cases hn:vj (l.drop j)
  ·rw[hn]at hp
   have hz:=XL hA.2.2.2 hn;have HE:Hid (i+qM false (l.drop i)=j):=by have:=hA.2.2.1;rw[hz]at this;exact this
   have hB:=hC.below;clear hz hn hA hC
   go_wp2_with (go_at_call 98;refine(hp _).mono ?_;rintro e w' ⟨rfl,rfl⟩)
   go_ret
   exact⟨by rw[HE.out];rfl,hB⟩
  ·rw[hn]at hp
   have hn2:=(ZI hn).2;have ht1:=UK l hC.at_ hC.q hC.s hC.qp hC.sp hC.le hl
   obtain⟨J,hJ⟩:∃J,J=j+zy qI (l.drop j):=⟨_,rfl⟩
   have HJ:Hid (J=j+zy qI (l.drop j)):=hJ;clear hJ;have HN:Hid (vj (l.drop j)=true):=hn;clear hn
   go_wp2_with (first
    |(go_at_call 98;refine(hp _).mono ?_;rintro e w' ⟨rfl,rfl⟩)
    |(go_at_call 125
      refine Ue 0 (.func (.func 99) #[] #[]) rfl ?_;refine ht1.mono ?_
      rintro e w1 ⟨rfl,hm1⟩)
    |(go_at_call 125
      refine Ue 0 (.func (.func 97) #[] #[]) rfl ?_;have hle:=y7 (p:=qI) hC.le;have hC1:=hC.moved hm1 hle;refine(Jo l hC1.at_ hC1.q hC1.s hC1.qp hC1.sp hC1.le hl).mono ?_
      rintro e w2 ⟨rfl,hm2⟩))
   go_roundw
   case rel=>exact⟨_,hA.next HN.out hm1 hm2⟩
   case measure =>
    rw[hC.atP,VC hm2];have:=y7 (p:=qX) (y7 (p:=qI) hC.le);omega
theorem Xa(w:World)(x:List UInt8):∃W1 cap,(convert 9 45 (.string (bs x))).run Tryz.prog w= .ok (.slice (some ⟨w.heap.size,0,none⟩) (bs x).size cap) W1∧(∀j (hj:j<x.length),W1.cell? ⟨w.heap.size,j,none⟩=some (.int .u8 (x[j].toNat:Int)))∧Below w.heap.size w W1:=by
 refine⟨_,_,run_bytes_of_string w 9 45 5 (bs x) Tryz.underlying9 Tryz.underlying45 Tryz.underlying5,?_,?_⟩
 ·intro j hj
  have hh:=heap_alloc_new w.drew (.cells (bytesRow (bs x) (grownCap w (bs x).size 0 5)) 5 ((bytesRow (bs x) (grownCap w (bs x).size 0 5)).size,(bytesRow (bs x) (grownCap w (bs x).size 0 5)).size+1));refine(cell_of_row _ _ _ _ _ _ hh).trans ?_;unfold bytesRow;rw[Array.getElem?_append_left (by simp[bs];exact hj)];simp[bs,hj]
 ·exact((⟨rfl,rfl,rfl,Nat.le_refl _,λ_ _=>rfl⟩:Below w.heap.size w w.drew)).alloc (Nat.le_refl _) _
theorem gK(x:List UInt8)(k:Nat)(h:k<x.length):val (x.take (k+1))=10*val (x.take k)+(x[k].toNat-48):=by
 rw[List.take_succ_eq_append_getElem h,Z8]
theorem F5(x:List UInt8)(w:World)(h0:x≠ [])(h9:x.length≤9)(hf:∀c ∈ x,zn c=true):
 Calls Tryz.prog 146 #[.string (bs x)] w λe w'=>e= .returned (.tuple #[.int .i64 (val x:Nat),.nilIface])∧Below w.heap.size w w':=by
 have hsz:=zx x;have hpos:0<x.length:=List.length_pos_iff.2 h0;obtain⟨W1,cap,hconv,hcell,hbel⟩:=Xa w x
 have hfig:∀j (hj:j<x.length),48≤((x[j].toNat:Nat):Int)∧((x[j].toNat:Nat):Int)≤57:=by
  intro j hj;have:=hf x[j] (List.getElem_mem hj);simp[zn]at this;omega
 have hx0:(0:Nat)<(bs x).size:=by omega
 have hg0:(bs x)[0]'hx0=x[0]:=zD x 0 hx0;have hf0:48≤((((bs x)[0]'hx0).toNat:Nat):Int)∧((((bs x)[0]'hx0).toNat:Nat):Int)≤57:=by rw[hg0];exact hfig 0 hpos
 have z1:(((((bs x)[0]'hx0).toNat:Nat):Int)==45)=false:=by simp;omega
 have z2:(((((bs x)[0]'hx0).toNat:Nat):Int)==43)=false:=by simp;omega
 have z5:¬((((bs x)[0]'hx0).toNat:Nat):Int)=45:=by omega
 have z3:(0:Int)<((bs x).size:Int):=by omega
 have z4:((bs x).size:Int)<19:=by omega
 have HS:Hid ((bs x).size=x.length):=hsz;clear hsz hg0 hf0;go_enter Tryz.func146,Tryz.ntmps146
 go_wp2
 go_loop [6,49] (λn i=>∃k:Nat,k≤x.length∧i= .int .i64 (k:Nat)∧n= .int .i64 (val (x.take k):Nat)) (λ_ i=>x.length-(intOf i).toNat)
 case atStart=>exact⟨0,Nat.zero_le _,rfl,rfl⟩
 case round =>
  obtain⟨k,hk,rfl,rfl⟩:=hrel
  have hvb:val (x.take k)<1000000000:=by
   have h1:=Ql (x.take k) (λc hc=>hf c (List.mem_of_mem_take hc));have h2:10 ^ (x.take k).length≤10 ^ 9:=Nat.pow_le_pow_right (by decide) (by rw[List.length_take];omega);exact Nat.lt_of_lt_of_le h1 h2
  obtain⟨V,hV⟩:∃V,V=val (x.take k):=⟨_,rfl⟩
  rw[←hV]at hvb ⊢;by_cases hlt:k<x.length
  ·have hc:=hcell k hlt
   have hfk:=hfig k hlt;have hvt:=gK x k hlt;rw[←hV]at hvt;have e1:((x[k].toNat-48:Nat):Int)=(x[k].toNat:Int)-48:=by omega
   have HV:Hid (((val (x.take (k+1)):Nat):Int)=10*(V:Int)+((x[k].toNat:Int)-48)):=by show((val (x.take (k+1)):Nat):Int)=_;rw[hvt];omega
   have hlt2:((k:Nat):Int)<((bs x).size:Int):=by rw[HS.out];omega
   clear hvt e1 hV;generalize ((x[k].toNat:Nat):Int)=z at hc hfk HV;obtain⟨g1,g2⟩:=hfk;clear hcell hfig hconv
   go_wp2
   go_round
   case rel=>exact⟨k+1,by omega,by go_num,by rw[HV.out];go_num⟩
   case measure=>simp[intOf];omega
  ·have hlt2:¬((k:Nat):Int)<((bs x).size:Int):=by rw[HS.out];omega
   have hfull:x.take k=x:=List.take_of_length_le (by omega);rw[hfull]at hV;have HV:Hid (V=val x):=hV;clear hfull hV hcell hfig hconv
   go_wp2
   go_ret2
   exact⟨by rw[HV.out];rfl,hbel⟩
theorem dp(x:List UInt8)(w:World)(h0:x≠ [])(h9:x.length≤9)(hf:∀c ∈ x,zn c=true):
 Calls Tryz.prog 128 #[.string (bs x)] w λe w'=>e= .returned (.tuple #[.int .i64 (val x:Nat),.nilIface])∧Below w.heap.size w w':=by
 have ha:=F5 x w h0 h9 hf;go_enter Tryz.func128,Tryz.ntmps128
 go_wp2_with (go_at_call 146;refine ha.mono ?_;rintro e w' ⟨rfl,hb⟩)
 go_ret2
 exact⟨rfl,hb⟩
theorem J7{w:World}{P Q S i:Nat}(l:List UInt8)(hP:zh w P 3 #[.int .i64 (i:Nat)])(hQ:zh w Q 146 #[pt P])(hS:zh w S 9 #[.string (bs l)])(hQP:Q≠P)(hSP:S≠P)(hi:i≤l.length)(hl:l.length≤2000):
 Calls Tryz.prog 125 #[.func (.func 127) #[] #[],pt Q,pt S] w (xf w P l i (zy zN (l.drop i))):=by
 have hsz:=zx l;have p0:w.cell? ⟨P,0,none⟩=some (.int .i64 (i:Nat)):=hP.cell 0;have q0:w.cell? ⟨Q,0,none⟩=some (pt P):=hQ.cell 0;have hi2:i≤2000:=by omega
 have HS:Hid ((bs l).size=l.length):=hsz;clear hsz;go_enter Tryz.func125,Tryz.ntmps125
 go_wp2
 go_loopw [] (λwr=>∃k:Nat,k≤zy zN (l.drop i)∧i+k≤l.length∧qH w wr P (i+k)) (λwr=>2000-atP wr P)
 case atStart=>exact⟨0,Nat.zero_le _,by omega,qH.refl hP⟩
 case round =>
  obtain⟨k,hk,hkl,hm⟩:=hrel;have p1:wr.cell? ⟨P,0,none⟩=some (.int .i64 ((i+k:Nat):Int)):=hm.has.cell 0;have q1:wr.cell? ⟨Q,0,none⟩=some (pt P):=(hm.other hQ hQP).cell 0;have s1:wr.cell? ⟨S,0,none⟩=some (.string (bs l)):=(hm.other hS hSP).cell 0;have f1:wr.frozen? ⟨P,0,none⟩=false:=hm.has.free 0
  obtain⟨J,hJ⟩:∃J,J=i+k:=⟨_,rfl⟩
  rw[←hJ]at p1;have HJ:Hid (J=i+k):=hJ;clear hJ p0 q0;have hJ2:J≤2000:=by have:=HJ.out;omega
  by_cases hlt:i+k<l.length
  ·have h1:J<(bs l).size:=by rw[HS.out,HJ.out];exact hlt
   have h2:((J:Nat):Int)<((bs l).size:Int):=by omega
   have hget:(bs l)[J]'h1=l[i+k]:=by rw[zD];simp only[HJ.out]
   have ht:=λW=>KA ((bs l)[J]'h1) W
   cases hc:zN (l[i+k])
   ·have hb:zN ((bs l)[J]'h1)=false:=by rw[hget];exact hc
    rw[hb]at ht;have hn:=vU hk hlt hc;have HN:Hid (k=zy zN (l.drop i)):=hn;clear hn hb hget hc;have b1:((i:Nat):Int)≤((J:Nat):Int):=by have:=HJ.out;omega
    have b2:((J:Nat):Int)≤((bs l).size:Int):=by omega
    go_wp2_with fail
    go_quiet ((go_at_call 127;exact Calls.quiet_of_same (ht _)))
    go_wp2
    go_quiet (fail)
    go_wp2
    go_ret
    exact vq HJ.out HN.out ((hm.drewN _).drewN _)
   ·have hb:zN ((bs l)[J]'h1)=true:=by rw[hget];exact hc
    rw[hb]at ht;have hn:=(yH hk hlt).2 hc;clear hb hget hc
    go_wp2_with fail
    go_quiet ((go_at_call 127;exact Calls.quiet_of_same (ht _)))
    go_wp2
    go_roundw
    case rel=>exact⟨k+1,hn,by omega,yE HJ.out (hm.drewN _)⟩
    case measure=>exact xl HJ.out (hm.drewN _) hJ2 hlt hl
  ·have h1:decide (J<(bs l).size)=false:=by rw[decide_eq_false_iff_not,HS.out,HJ.out];omega
   have h2:decide (((J:Nat):Int)<((bs l).size:Int))=false:=by rw[decide_eq_false_iff_not,HS.out,HJ.out];omega
   have hn:=yy hk hlt hi;have HN:Hid (k=zy zN (l.drop i)):=hn;have b1:((i:Nat):Int)≤((J:Nat):Int):=by have:=HJ.out;omega
   have b2:((J:Nat):Int)≤((bs l).size:Int):=by rw[HS.out,HJ.out];omega
   clear hn
   go_wp2_with fail
   go_quiet (fail)
   go_wp2
   go_quiet (fail)
   go_wp2
   go_ret
   exact vq HJ.out HN.out ((hm.drewN _).drewN _)
theorem QS{w:World}{P Q S i:Nat}(l:List UInt8)(hP:zh w P 3 #[.int .i64 (i:Nat)])(hQ:zh w Q 146 #[pt P])(hS:zh w S 9 #[.string (bs l)])(hQP:Q≠P)(hSP:S≠P)(hi:i≤l.length)(hl:l.length≤2000):
 Calls Tryz.prog 125 #[.func (.func 102) #[] #[],pt Q,pt S] w (xf w P l i (zy zn (l.drop i))):=by
 have hsz:=zx l;have p0:w.cell? ⟨P,0,none⟩=some (.int .i64 (i:Nat)):=hP.cell 0;have q0:w.cell? ⟨Q,0,none⟩=some (pt P):=hQ.cell 0;have hi2:i≤2000:=by omega
 have HS:Hid ((bs l).size=l.length):=hsz;clear hsz;go_enter Tryz.func125,Tryz.ntmps125
 go_wp2
 go_loopw [] (λwr=>∃k:Nat,k≤zy zn (l.drop i)∧i+k≤l.length∧qH w wr P (i+k)) (λwr=>2000-atP wr P)
 case atStart=>exact⟨0,Nat.zero_le _,by omega,qH.refl hP⟩
 case round =>
  obtain⟨k,hk,hkl,hm⟩:=hrel;have p1:wr.cell? ⟨P,0,none⟩=some (.int .i64 ((i+k:Nat):Int)):=hm.has.cell 0;have q1:wr.cell? ⟨Q,0,none⟩=some (pt P):=(hm.other hQ hQP).cell 0;have s1:wr.cell? ⟨S,0,none⟩=some (.string (bs l)):=(hm.other hS hSP).cell 0;have f1:wr.frozen? ⟨P,0,none⟩=false:=hm.has.free 0
  obtain⟨J,hJ⟩:∃J,J=i+k:=⟨_,rfl⟩
  rw[←hJ]at p1;have HJ:Hid (J=i+k):=hJ;clear hJ p0 q0;have hJ2:J≤2000:=by have:=HJ.out;omega
  by_cases hlt:i+k<l.length
  ·have h1:J<(bs l).size:=by rw[HS.out,HJ.out];exact hlt
   have h2:((J:Nat):Int)<((bs l).size:Int):=by omega
   have hget:(bs l)[J]'h1=l[i+k]:=by rw[zD];simp only[HJ.out]
   have ht:=λW=>zY ((bs l)[J]'h1) W
   cases hc:zn (l[i+k])
   ·have hb:zn ((bs l)[J]'h1)=false:=by rw[hget];exact hc
    rw[hb]at ht;have hn:=vU hk hlt hc;have HN:Hid (k=zy zn (l.drop i)):=hn;clear hn hb hget hc;have b1:((i:Nat):Int)≤((J:Nat):Int):=by have:=HJ.out;omega
    have b2:((J:Nat):Int)≤((bs l).size:Int):=by omega
    go_wp2_with fail
    go_quiet ((go_at_call 102;exact Calls.quiet_of_same (ht _)))
    go_wp2
    go_quiet (fail)
    go_wp2
    go_ret
    exact vq HJ.out HN.out ((hm.drewN _).drewN _)
   ·have hb:zn ((bs l)[J]'h1)=true:=by rw[hget];exact hc
    rw[hb]at ht;have hn:=(yH hk hlt).2 hc;clear hb hget hc
    go_wp2_with fail
    go_quiet ((go_at_call 102;exact Calls.quiet_of_same (ht _)))
    go_wp2
    go_roundw
    case rel=>exact⟨k+1,hn,by omega,yE HJ.out (hm.drewN _)⟩
    case measure=>exact xl HJ.out (hm.drewN _) hJ2 hlt hl
  ·have h1:decide (J<(bs l).size)=false:=by rw[decide_eq_false_iff_not,HS.out,HJ.out];omega
   have h2:decide (((J:Nat):Int)<((bs l).size:Int))=false:=by rw[decide_eq_false_iff_not,HS.out,HJ.out];omega
   have hn:=yy hk hlt hi;have HN:Hid (k=zy zn (l.drop i)):=hn;have b1:((i:Nat):Int)≤((J:Nat):Int):=by have:=HJ.out;omega
   have b2:((J:Nat):Int)≤((bs l).size:Int):=by rw[HS.out,HJ.out];omega
   clear hn
   go_wp2_with fail
   go_quiet (fail)
   go_wp2
   go_quiet (fail)
   go_wp2
   go_ret
   exact vq HJ.out HN.out ((hm.drewN _).drewN _)
theorem Jj{w:World}{P Q S i:Nat}(l:List UInt8)(hP:zh w P 3 #[.int .i64 (i:Nat)])(hQ:zh w Q 146 #[pt P])(hS:zh w S 9 #[.string (bs l)])(hQP:Q≠P)(hSP:S≠P)(hi:i≤l.length)(hl:l.length≤2000):
 Calls Tryz.prog 125 #[.func (.func 129) #[] #[],pt Q,pt S] w (xf w P l i (zy zq (l.drop i))):=by
 have hsz:=zx l;have p0:w.cell? ⟨P,0,none⟩=some (.int .i64 (i:Nat)):=hP.cell 0;have q0:w.cell? ⟨Q,0,none⟩=some (pt P):=hQ.cell 0;have hi2:i≤2000:=by omega
 have HS:Hid ((bs l).size=l.length):=hsz;clear hsz;go_enter Tryz.func125,Tryz.ntmps125
 go_wp2
 go_loopw [] (λwr=>∃k:Nat,k≤zy zq (l.drop i)∧i+k≤l.length∧qH w wr P (i+k)) (λwr=>2000-atP wr P)
 case atStart=>exact⟨0,Nat.zero_le _,by omega,qH.refl hP⟩
 case round =>
  obtain⟨k,hk,hkl,hm⟩:=hrel;have p1:wr.cell? ⟨P,0,none⟩=some (.int .i64 ((i+k:Nat):Int)):=hm.has.cell 0;have q1:wr.cell? ⟨Q,0,none⟩=some (pt P):=(hm.other hQ hQP).cell 0;have s1:wr.cell? ⟨S,0,none⟩=some (.string (bs l)):=(hm.other hS hSP).cell 0;have f1:wr.frozen? ⟨P,0,none⟩=false:=hm.has.free 0
  obtain⟨J,hJ⟩:∃J,J=i+k:=⟨_,rfl⟩
  rw[←hJ]at p1;have HJ:Hid (J=i+k):=hJ;clear hJ p0 q0;have hJ2:J≤2000:=by have:=HJ.out;omega
  by_cases hlt:i+k<l.length
  ·have h1:J<(bs l).size:=by rw[HS.out,HJ.out];exact hlt
   have h2:((J:Nat):Int)<((bs l).size:Int):=by omega
   have hget:(bs l)[J]'h1=l[i+k]:=by rw[zD];simp only[HJ.out]
   have ht:=λW=>un ((bs l)[J]'h1) W
   cases hc:zq (l[i+k])
   ·have hb:zq ((bs l)[J]'h1)=false:=by rw[hget];exact hc
    rw[hb]at ht;have hn:=vU hk hlt hc;have HN:Hid (k=zy zq (l.drop i)):=hn;clear hn hb hget hc;have b1:((i:Nat):Int)≤((J:Nat):Int):=by have:=HJ.out;omega
    have b2:((J:Nat):Int)≤((bs l).size:Int):=by omega
    go_wp2_with fail
    go_quiet ((go_at_call 129;exact Calls.quiet_of_same (ht _)))
    go_wp2
    go_quiet (fail)
    go_wp2
    go_ret
    exact vq HJ.out HN.out ((hm.drewN _).drewN _)
   ·have hb:zq ((bs l)[J]'h1)=true:=by rw[hget];exact hc
    rw[hb]at ht;have hn:=(yH hk hlt).2 hc;clear hb hget hc
    go_wp2_with fail
    go_quiet ((go_at_call 129;exact Calls.quiet_of_same (ht _)))
    go_wp2
    go_roundw
    case rel=>exact⟨k+1,hn,by omega,yE HJ.out (hm.drewN _)⟩
    case measure=>exact xl HJ.out (hm.drewN _) hJ2 hlt hl
  ·have h1:decide (J<(bs l).size)=false:=by rw[decide_eq_false_iff_not,HS.out,HJ.out];omega
   have h2:decide (((J:Nat):Int)<((bs l).size:Int))=false:=by rw[decide_eq_false_iff_not,HS.out,HJ.out];omega
   have hn:=yy hk hlt hi;have HN:Hid (k=zy zq (l.drop i)):=hn;have b1:((i:Nat):Int)≤((J:Nat):Int):=by have:=HJ.out;omega
   have b2:((J:Nat):Int)≤((bs l).size:Int):=by rw[HS.out,HJ.out];omega
   clear hn
   go_wp2_with fail
   go_quiet (fail)
   go_wp2
   go_quiet (fail)
   go_wp2
   go_ret
   exact vq HJ.out HN.out ((hm.drewN _).drewN _)
def Zi(w w':World)(P j:Nat):Prop:=∃w1,qH w w1 P j∧Below w1.heap.size w1 w'
theorem qH.after{w w':World}{P j:Nat}(h:qH w w' P j):Zi w w' P j:=⟨w',h,Below.refl _ _⟩
theorem Zi.at_{w w':World}{P j:Nat}(h:Zi w w' P j):zh w' P 3 #[.int .i64 (j:Nat)]:=by
 obtain⟨w1,hm,hb⟩:=h;exact hm.has.below hb hm.has.lt
theorem Zi.other{w w':World}{P j g t:Nat}{cs:Array Value}(h:Zi w w' P j)(hg:zh w g t cs)(hne:g≠P):zh w' g t cs:=by
 obtain⟨w1,hm,hb⟩:=h;have:=hm.other hg hne;exact this.below hb this.lt
theorem Zi.size{w w':World}{P j:Nat}(h:Zi w w' P j):w.heap.size≤w'.heap.size:=by
 obtain⟨w1,hm,hb⟩:=h;rw[←hm.size];exact hb.size
theorem Zi.below{w w':World}{P j B:Nat}(h:Zi w w' P j)(hB:B≤P)(hw:B≤w.heap.size):Below B w w':=by
 obtain⟨w1,hm,hb⟩:=h;exact(hm.below hB hw).trans (hb.mono (by rw[hm.size];exact hw))
abbrev DX(Q S:Nat):Value:= .func (.func 125) #[] #[pt Q,pt S]
def XW(w:World)(P j:Nat)(v:Value)(er:Int)(e:Ending)(w':World):Prop:=e= .returned (.tuple #[v,.int .i64 er])∧Zi w w' P j
theorem Qw(l:List UInt8)(p:UInt8→Bool)(j:Nat):(bs ((l.drop j).take (zy p (l.drop j)))).size=zy p (l.drop j):=by
 rw[zx,List.length_take,Nat.min_eq_left (vf _ _)]
theorem Df{w0 w:World}{P Q S j:Nat}{l:List UInt8}(hC:XO w0 w P Q S j l)(hl:l.length≤2000)(h:¬16<zy zN (l.drop j)):
 Calls Tryz.prog 101 #[DX Q S] w (XW w P (j+zy zN (l.drop j)) (.string (bs ((l.drop j).take (zy zN (l.drop j))))) 0):=by
 have ht:=J7 l hC.at_ hC.q hC.s hC.qp hC.sp hC.le hl;unfold xf at ht;have hz:=Qw l zN j;generalize (l.drop j).take (zy zN (l.drop j))=X at hz ht ⊢;have h1:¬(16:Int)<((bs X).size:Int):=by omega
 clear hz;go_enter Tryz.func101,Tryz.ntmps101
 go_wp2_with (go_at_call 125;refine ht.mono ?_;rintro e w1 ⟨rfl,hm⟩)
 go_ret2
 exact⟨rfl,hm.after⟩
theorem UY{w0 w:World}{P Q S j:Nat}{l:List UInt8}(hC:XO w0 w P Q S j l)(hl:l.length≤2000)(h:16<zy zN (l.drop j)):
 Calls Tryz.prog 101 #[DX Q S] w (XW w P (j+zy zN (l.drop j)) (.string (bs [])) 102):=by
 have ht:=J7 l hC.at_ hC.q hC.s hC.qp hC.sp hC.le hl;unfold xf at ht;have hz:=Qw l zN j;generalize (l.drop j).take (zy zN (l.drop j))=X at hz ht ⊢;have h1:(16:Int)<((bs X).size:Int):=by omega
 clear hz;go_enter Tryz.func101,Tryz.ntmps101
 go_wp2_with (go_at_call 125;refine ht.mono ?_;rintro e w1 ⟨rfl,hm⟩)
 go_ret2
 exact⟨rfl,hm.after⟩
theorem Qq{w0 w:World}{P Q S j:Nat}{l:List UInt8}(hC:XO w0 w P Q S j l)(hl:l.length≤2000)(h:¬9<zy zn (l.drop j))(h0:zy zn (l.drop j)≠0):
 Calls Tryz.prog 103 #[DX Q S] w (XW w P (j+zy zn (l.drop j)) (.int .i64 (val ((l.drop j).take (zy zn (l.drop j))):Nat)) 0):=by
 have ht:=QS l hC.at_ hC.q hC.s hC.qp hC.sp hC.le hl;unfold xf at ht;have hz:=Qw l zn j;have hfig:∀c ∈ (l.drop j).take (zy zn (l.drop j)),zn c=true:=Qf;generalize (l.drop j).take (zy zn (l.drop j))=X at hz ht hfig ⊢;have h1:¬(9:Int)<((bs X).size:Int):=by omega
 have h2:X≠ []:=by rintro rfl;rw[zx]at hz;exact h0 hz.symm
 have h3:X.length≤9:=by rw[zx]at hz;omega
 have ha:=λW=>dp X W h2 h3 hfig
 clear hz hfig h2 h3;go_enter Tryz.func103,Tryz.ntmps103
 go_wp2_with (first
  |(go_at_call 125;refine ht.mono ?_;rintro e w1 ⟨rfl,hm⟩)
  |(go_at_call 128;refine(ha _).mono ?_;rintro e w2 ⟨rfl,hb⟩))
 go_ret2
 exact⟨rfl,_,hm,hb⟩
theorem Xv{w0 w:World}{P Q S j:Nat}{l:List UInt8}(hC:XO w0 w P Q S j l)(hl:l.length≤2000)(h:9<zy zn (l.drop j)):
 Calls Tryz.prog 103 #[DX Q S] w (XW w P (j+zy zn (l.drop j)) (.int .i64 0) 102):=by
 have ht:=QS l hC.at_ hC.q hC.s hC.qp hC.sp hC.le hl;unfold xf at ht;have hz:=Qw l zn j;generalize (l.drop j).take (zy zn (l.drop j))=X at hz ht ⊢;have h1:(9:Int)<((bs X).size:Int):=by omega
 clear hz;go_enter Tryz.func103,Tryz.ntmps103
 go_wp2_with (go_at_call 125;refine ht.mono ?_;rintro e w1 ⟨rfl,hm⟩)
 go_ret2
 exact⟨rfl,hm.after⟩
theorem Gm{w0 w:World}{P Q S j:Nat}{l:List UInt8}(hC:XO w0 w P Q S j l)(hl:l.length≤2000)(h:zy zq (l.drop j)=0):
 Calls Tryz.prog 104 #[DX Q S] w (XW w P (j+zy zq (l.drop j)) (.string (bs [])) 101):=by
 have ht:=Jj l hC.at_ hC.q hC.s hC.qp hC.sp hC.le hl;unfold xf at ht;have hz:(l.drop j).take (zy zq (l.drop j))= []:=by rw[h];rfl
 rw[hz]at ht;have h1:(bs []).toList= []:=zr [];clear hz;generalize zy zq (l.drop j)=n at ht h ⊢;clear h;go_enter Tryz.func104,Tryz.ntmps104
 go_wp2_with (go_at_call 125;refine ht.mono ?_;rintro e w1 ⟨rfl,hm⟩)
 go_ret2
 exact⟨rfl,hm.after⟩
theorem GH{w0 w:World}{P Q S j:Nat}{l:List UInt8}(hC:XO w0 w P Q S j l)(hl:l.length≤2000)(h:128<zy zq (l.drop j)):
 Calls Tryz.prog 104 #[DX Q S] w (XW w P (j+zy zq (l.drop j)) (.string (bs [])) 102):=by
 have ht:=Jj l hC.at_ hC.q hC.s hC.qp hC.sp hC.le hl;unfold xf at ht;have hz:=Qw l zq j;generalize (l.drop j).take (zy zq (l.drop j))=X at hz ht ⊢;have h1:(128:Int)<((bs X).size:Int):=by omega
 have h2:((bs X).toList== [])=false:=by rw[zr];cases X with
  |nil=>rw[zx]at hz;simp at hz;omega
  |cons a b=>rfl
 clear hz;go_enter Tryz.func104,Tryz.ntmps104
 go_wp2_with (go_at_call 125;refine ht.mono ?_;rintro e w1 ⟨rfl,hm⟩)
 go_ret2
 exact⟨rfl,hm.after⟩
theorem KH{w0 w:World}{P Q S j:Nat}{l:List UInt8}(hC:XO w0 w P Q S j l)(hl:l.length≤2000)(h0:zy zq (l.drop j)≠0)(h:¬128<zy zq (l.drop j)):
 Calls Tryz.prog 104 #[DX Q S] w (XW w P (j+zy zq (l.drop j)) (.string (bs ((l.drop j).take (zy zq (l.drop j))))) 0):=by
 have ht:=Jj l hC.at_ hC.q hC.s hC.qp hC.sp hC.le hl;unfold xf at ht;have hz:=Qw l zq j;generalize (l.drop j).take (zy zq (l.drop j))=X at hz ht ⊢;have h1:¬(128:Int)<((bs X).size:Int):=by omega
 have h2:((bs X).toList== [])=false:=by rw[zr];cases X with
  |nil=>rw[zx]at hz;simp at hz;omega
  |cons a b=>rfl
 clear hz;go_enter Tryz.func104,Tryz.ntmps104
 go_wp2_with (go_at_call 125;refine ht.mono ?_;rintro e w1 ⟨rfl,hm⟩)
 go_ret2
 exact⟨rfl,hm.after⟩
def jG(t:Tk)(p:Nat):Array Value:=#[.int .i64 (t.kind:Nat),.string (bs t.s),.int .i64 (t.n:Nat),.int .i64 (p:Nat)]
def jM(w:World)(i:Nat)(t:Tk)(E:Nat)(er:Int)(e:Ending)(w':World):Prop:=e= .returned (.tuple #[.agg (jG t i),.int .i64 (E:Nat),.int .i64 er])∧Below w.heap.size w w'
abbrev Gu(w:World)(l:List UInt8)(i:Nat)(z k:Int):World:=
 ((((w.alloc (.cells #[.int .i64 0,.string ⟨#[]⟩,.int .i64 0,.int .i64 0] 100)).alloc (.cells #[.int .i64 k,.string ⟨#[]⟩,.int .i64 0,.int .i64 (i:Nat)] 100)).alloc (.cells #[.int .i64 z] 3)).alloc (.cells #[.string (bs l)] 9)).alloc (.cells #[pt (w.heap.size+1+1)] 146)
theorem j9(w:World)(l:List UInt8)(i j:Nat)(z k:Int)(hz:z=(j:Nat))(hj:j≤l.length):XO w (Gu w l i z k) (w.heap.size+1+1) (w.heap.size+1+1+1+1) (w.heap.size+1+1+1) j l:=by
 subst hz;exact⟨((zh.new_at (by simp)).alloc _).alloc _,zh.new_at (by simp),(zh.new_at (by simp)).alloc _,by omega,by omega,hj,(((((Below.refl _ _).alloc (Nat.le_refl _) _).alloc (by simp) _).alloc (by simp;omega) _).alloc (by simp;omega) _).alloc (by simp;omega) _,by omega⟩
theorem ve(w:World)(l:List UInt8)(i:Nat)(z k:Int):zh (Gu w l i z k) (w.heap.size+1) 100 #[.int .i64 k,.string ⟨#[]⟩,.int .i64 0,.int .i64 (i:Nat)]:=(((zh.new_at (by simp)).alloc _).alloc _).alloc _
theorem j8(w:World)(l:List UInt8)(i:Nat)(z k:Int):zh (Gu w l i z k) w.heap.size 100 #[.int .i64 0,.string ⟨#[]⟩,.int .i64 0,.int .i64 0]:=((((zh.new_at (by simp)).alloc _).alloc _).alloc _).alloc _
theorem Jg:bs []=⟨#[]⟩:=rfl
theorem below_drew'{B:Nat}{a w:World}(h:Below B a w):Below B a w.drew:=⟨h.os,h.tape,h.output,h.size,h.block⟩
theorem yD{w:World}{o1 o2 o3 o4:Obj}(o5:Obj):Below w.heap.size w (((((w.alloc o1).alloc o2).alloc o3).alloc o4).alloc o5).drew:=
 below_drew' ((((((Below.refl _ _).alloc (Nat.le_refl _) _).alloc (by simp) _).alloc (by simp;omega) _).alloc (by simp;omega) _).alloc (by simp;omega) _)
theorem jC{w w1:World}{l:List UInt8}{i J:Nat}{z k:Int}(hA:Zi (Gu w l i z k) w1 (w.heap.size+1+1) J){a:Nat}{u v0 v1 v2 v3:Value}:
 Below w.heap.size w ((((((w1.setCell ⟨w.heap.size+1,a,none⟩ u).setCell ⟨w.heap.size,0,none⟩ v0).setCell ⟨w.heap.size,1,none⟩ v1).setCell ⟨w.heap.size,2,none⟩ v2).setCell ⟨w.heap.size,3,none⟩ v3).drew):=by
 have h1:Below w.heap.size w (Gu w l i z k):=(((((Below.refl _ _).alloc (Nat.le_refl _) _).alloc (by simp) _).alloc (by simp;omega) _).alloc (by simp;omega) _).alloc (by simp;omega) _;have h2:=h1.trans (hA.below (B:=w.heap.size) (by omega) (by simp;omega));exact below_drew' (((((h2.setCell (p:=⟨w.heap.size+1,a,none⟩) (by simp) u).setCell (p:=⟨w.heap.size,0,none⟩) (by simp) v0).setCell (p:=⟨w.heap.size,1,none⟩) (by simp) v1).setCell (p:=⟨w.heap.size,2,none⟩) (by simp) v2).setCell (p:=⟨w.heap.size,3,none⟩) (by simp) v3)
end
end Go.Proofs.YtebcfkigbbolaaaGreatDoor
