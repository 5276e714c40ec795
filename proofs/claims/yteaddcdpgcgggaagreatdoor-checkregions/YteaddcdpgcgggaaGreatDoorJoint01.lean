import Derived.Test.YteaddcdpgcgggaaGreatDoorJoint00
import Derived.Deep.LoopGhost
import Derived.Shelf.Abstract
import Derived.BigQuiet
import Derived.Deep.QuietTactic
import Derived.Lib.Strings
import Derived.Laws.IdiomStrings
namespace Go.Proofs.YteaddcdpgcgggaaGreatDoor
set_option linter.unusedVariables false
set_option maxRecDepth 100000
set_option maxHeartbeats 40000000
section
open Go.RowKit Go.Shelf
theorem dy(g:Nat)(cb:Array Value)(n:Nat)(p:Nat→Bool)(w:World)(eg:∀args w,(callFunc g args).run Tryz.prog w= .ok (.enter g args) w)(hn:n≤10000)
 (hf:∀(i:Nat) (W:World),i<n→Below w.heap.size w W→Calls Tryz.prog g (#[.int .i64 i]++cb) W λe W'=>e= .returned (.bool (p i))∧Below w.heap.size w W')
 (hmono:∀a b,a≤b→b<n→p a=true→p b=true):
 Calls Tryz.prog 142 #[.int .i64 n,.func (.func g) #[] cb] w λe w'=>∃r:Nat,e= .returned (.int .i64 (r:Nat))∧r≤n∧(∀t,t<r→p t=false)∧(∀t,r≤t→t<n→p t=true)∧Below w.heap.size w w':=by
 have HF:Hid (∀(i:Nat) (W:World),i<n→Below w.heap.size w W→Calls Tryz.prog g (#[.int .i64 i]++cb) W λe W'=>e= .returned (.bool (p i))∧Below w.heap.size w W'):=hf;have M:Hid (∀a b,a≤b→b<n→p a=true→p b=true):=hmono;clear hf hmono;go_enter Tryz.func142,Tryz.ntmps142
 go_wp2
 go_loopg [5,6] n (λkx s5 s6 wr=>∃(lo hi:Nat),s5= .int .i64 lo∧s6= .int .i64 hi∧lo≤hi∧hi≤n∧hi-lo≤kx∧Below w.heap.size w wr ∧
  Hid ((∀t,t<lo→p t=false)∧(∀t,hi≤t→t<n→p t=true)))
 case atStart=>exact⟨0,n,rfl,rfl,Nat.zero_le _,Nat.le_refl _,by omega,Below.refl _ _,(⟨λt ht=>absurd ht (Nat.not_lt_zero _),λt h1 h2=>by omega⟩:(∀t,t<0→p t=false)∧(∀t,n≤t→t<n→p t=true))⟩
 case round =>
  obtain⟨lo,hi,rfl,rfl,hlh,hin,hg,hb,I⟩:=hrel;by_cases hlt:lo<hi
  ·have hc:=HF.out ((lo+hi) / 2) _ (by omega) hb
   rw[show(((lo+hi) / 2:Nat):Int)=((lo:Int)+(hi:Int)) / 2 by omega]at hc;cases hp:p ((lo+hi) / 2)<;>rw[hp]at hc
   ·have HP:Hid (p ((lo+hi) / 2)=false):=hp
    clear hp
    go_wp2_with (go_at_fn g;refine hc.mono ?_;rintro e w' ⟨rfl,hb2⟩)
    go_roundg (hi-((lo+hi) / 2+1))
    case measure=>omega
    case rel =>
     have I2:Hid ((∀t,t<(lo+hi) / 2+1→p t=false)∧(∀t,hi≤t→t<n→p t=true)):=⟨λt ht=>(by
      cases h:p t with
      |false=>rfl
      |true=>have:=M.out t ((lo+hi) / 2) (by omega) (by omega) h;rw[HP.out]at this;cases this),I.out.2⟩
     exact⟨(lo+hi) / 2+1,hi,by rw[show((lo:Int)+(hi:Int)) / 2+1=(((lo+hi) / 2+1:Nat):Int) by omega],rfl,by omega,hin,Nat.le_refl _,hb2,I2⟩
   ·have HP:Hid (p ((lo+hi) / 2)=true):=hp
    clear hp
    go_wp2_with (go_at_fn g;refine hc.mono ?_;rintro e w' ⟨rfl,hb2⟩)
    go_roundg ((lo+hi) / 2-lo)
    case measure=>omega
    case rel =>
     have I2:Hid ((∀t,t<lo→p t=false)∧(∀t,(lo+hi) / 2≤t→t<n→p t=true)):=⟨I.out.1,λt ht htn=>M.out ((lo+hi) / 2) t ht htn HP.out⟩
     exact⟨lo,(lo+hi) / 2,rfl,by rw[show((lo:Int)+(hi:Int)) / 2=(((lo+hi) / 2:Nat):Int) by omega],by omega,by omega,Nat.le_refl _,hb2,I2⟩
  ·obtain rfl:hi=lo:=by omega
   go_wp2
   go_ret
   exact⟨hi,rfl,hin,I.out.1,I.out.2,hb⟩
theorem Hu(g bx:Nat)(cb:Array Value)(i:Nat)(b:Bool)(W:World)(B:Nat)(w:World)(hi:i≤10000)(eg:∀args w,(callFunc g args).run Tryz.prog w= .ok (.enter g args) w)
 (hx:W.cell? ⟨bx,0,none⟩=some (.func (.func g) #[] cb))
 (hf:Calls Tryz.prog g (#[.int .i64 ((i+1:Nat):Int)]++cb) W λe W'=>e= .returned (.bool b)∧Below B w W'):
 Calls Tryz.prog 143 #[.int .i64 i,.pointer (some ⟨bx,0,none⟩)] W λe W'=>e= .returned (.bool !b)∧Below B w W':=by
 rw[show((i+1:Nat):Int)=(i:Int)+1 by omega]at hf;go_enter Tryz.func143,Tryz.ntmps143
 go_wp2_with (go_at_fn g;refine hf.mono ?_;rintro e w' ⟨rfl,hb2⟩)
 go_ret
 exact⟨rfl,hb2⟩
theorem VP(g:Nat)(cb:Array Value)(L:Nat)(F:Nat→Bool)(w:World)(eg:∀args w,(callFunc g args).run Tryz.prog w= .ok (.enter g args) w)(hn:L≤10000)
 (hf:∀(d:Nat) (W:World),d≤L→Below w.heap.size w W→Calls Tryz.prog g (#[.int .i64 (d:Nat)]++cb) W λe W'=>e= .returned (.bool (F d))∧Below W.heap.size W W')
 (hanti:∀a b,a≤b→b≤L→F b=true→F a=true):
 Calls Tryz.prog 128 #[.int .i64 L,.func (.func g) #[] cb] w λe w'=>∃r:Nat,e= .returned (.int .i64 (r:Nat))∧j0 L F r∧Below w.heap.size w w':=by
 obtain⟨W0,hW0⟩:∃W0,W0=w.alloc (.cells #[.func (.func g) #[] cb] 122):=⟨_,rfl⟩
 have hs0:W0.heap.size=w.heap.size+1:=by rw[hW0];simp
 have hx0:zm W0 w.heap.size 122 #[.func (.func g) #[] cb]:=by rw[hW0];exact zm.new _ _ _
 have hB0:Below w.heap.size w W0:=by rw[hW0];exact(Below.refl _ w).alloc (Nat.le_refl _) _
 have hS:=dy 143 #[.pointer (some ⟨w.heap.size,0,none⟩)] L (λi=> !F (i+1)) W0 (enters_of Tryz.func143 (by kernel_rfl) rfl) hn
  (λi W hi hb=>by
    refine(Hu g w.heap.size cb i (F (i+1)) W W0.heap.size W0 (by omega) eg (by rw[(hx0.below hb (by omega)).cell 0];rfl) ?_);refine(hf (i+1) W (by omega) (hB0.trans (hb.mono (by omega)))).mono ?_;rintro e W' ⟨rfl,h⟩
    exact⟨rfl,hb.trans (h.mono hb.size)⟩)
  (λa b hab hb h=>by
    cases hq:F (b+1)with
    |false=>rfl
    |true=>rw[hanti (a+1) (b+1) (by omega) (by omega) hq]at h;cases h)
 have HS:Hid (Calls Tryz.prog 142 #[.int .i64 L,.func (.func 143) #[] #[.pointer (some ⟨w.heap.size,0,none⟩)]] W0 λe w'=>∃r:Nat,e= .returned (.int .i64 (r:Nat))∧r≤L∧(∀t,t<r→(!F (t+1))=false)∧(∀t,r≤t→t<L→(!F (t+1))=true)∧Below W0.heap.size W0 w'):=hS;clear hS hf hanti;go_enter Tryz.func128,Tryz.ntmps128
 go_wp2_with (first
  |((go_at_call 142)
    rw[←hW0];refine HS.out.mono ?_;(rintro e w1 ⟨r,rfl,h1,h2,h3,h4⟩)))
 go_ret
 exact⟨r,rfl,⟨h1,λt ht=>by have:=h2 t ht;simpa using this,λh=>by have:=h3 r (Nat.le_refl _) h;simpa using this⟩,hB0.trans (h4.mono (by omega))⟩
end
section
open Go.ChangeShapes Go.WideShapes Go.ChangeAt Go.RowKit Go.Shelf
theorem uC{o:Oper}{a:Act}(x:Operand)(ho:o.op= .load 96 x)(p:Addr)(hx:a.eval x= .pointer (some p))(v:Value)(w:World)(h:w.cell? p=some v):(execOp a.eval o).run Tryz.prog w= .ok (.value v) w:=by
 unfold execOp;simp only[ho,hx];simp[go_sem,h]
theorem DT{o:Oper}{a:Act}(x y:Operand)(ho:o.op= .binOp .leq 3 x y 3)(p q:Int)(hx:a.eval x= .int .i64 p)(hy:a.eval y= .int .i64 q)(c:Bool)(hc:decide (p≤q)=c)(w:World):
 (execOp a.eval o).run Tryz.prog w= .ok (.value (.bool c)) w:=by
 unfold execOp;simp only[ho,hx,hy];subst hc;go_simp
theorem dF(g bf bn:Nat)(rest:Nat→Nat)(d n:Nat)(W:World)(hn:n≤8192)(hd:d≤8192)(hr:rest d≤100000)
 (eg:∀args w,(callFunc g args).run Tryz.prog w= .ok (.enter g args) w)
 (hx:zm W bf 96 #[.func (.func g) #[] #[]]) (hy:zm W bn 3 #[.int .i64 (n:Nat)])
 (hf:∀W:World,Calls Tryz.prog g #[.int .i64 (d:Nat)] W λe W'=>e= .returned (.int .i64 (rest d:Nat))∧Below W.heap.size W W'):
 Calls Tryz.prog 150 #[.int .i64 (d:Nat),.pointer (some ⟨bf,0,none⟩),.pointer (some ⟨bn,0,none⟩)] W λe W'=>e= .returned (.bool (xN rest n d))∧Below W.heap.size W W':=by
 have HF:decide (((d+rest d:Nat):Int)≤(n:Int))=xN rest n d:=by unfold xN;exact decide_eq_decide.2 (by omega)
 generalize rest d=q at hf hr HF;generalize xN rest n d=bo at HF ⊢;have HH:Hid (decide (((d+q:Nat):Int)≤(n:Int))=bo):=HF;clear HF;go_enter Tryz.func150,Tryz.ntmps150
 go_wp2
 refine wp_region_held_drew (S:=λw'=>zm w' bf 96 #[.func (.func g) #[] #[]]∧zm w' bn 3 #[.int .i64 (n:Nat)]∧Below W.heap.size W w') (by kernel_rfl) ⟨hx,hy,(Below.refl _ W).drew⟩ (λhHeld=>?_);refine zw 0 (some 5) (.int .i64 (d:Nat)) hHeld ?_;simp only[Act.put,zh,zf,zg];refine zD 1 (some 6) (.func (.func g) #[] #[]) rfl rfl (λwz hz=>uC _ rfl ⟨bf,0,none⟩ rfl _ wz (by rw[hz.1.cell 0];rfl)) hHeld ?_;simp only[Act.put,zh,zf,zg];refine zw 2 (some 7) (.int .i64 (d:Nat)) hHeld ?_;simp only[Act.put,zh,zf,zg];refine zD 5 (some 10) (.int .i64 (n:Nat)) rfl rfl (λwz hz=>ZK _ rfl ⟨bn,0,none⟩ rfl _ wz (by rw[hz.2.1.cell 0];rfl)) hHeld ?_;simp only[Act.put,zh,zf,zg];refine qY 3 (some 8) g #[.int .i64 (d:Nat)] (by kernel_rfl) rfl rfl (by rfl) (by unfold execOp;simp[Act.eval,go_sem,eg]) (hf _) ?_;rintro e w1 ⟨rfl,hb1⟩;have hb1':Below W.heap.size W w1:=hHeld.2.2.trans hb1
 have hH1:zm w1 bf 96 #[.func (.func g) #[] #[]]∧zm w1 bn 3 #[.int .i64 (n:Nat)]∧Below W.heap.size W w1:=⟨hx.below hb1' hx.lt,hy.below hb1' hy.lt,hb1'⟩
 refine⟨_,rfl,hH1,?_⟩;simp only[Act.put,zh,zf,zg];refine zD 4 (some 9) (.int .i64 ((d+q:Nat):Int)) rfl rfl (λwz hz=>Ye _ _ rfl d q rfl rfl (by omega) (by omega) wz) hH1 ?_;simp only[Act.put,zh,zf,zg];refine zD 6 (some 11) (.bool bo) rfl rfl (λwz hz=>DT _ _ rfl _ _ rfl rfl bo HH.out wz) hH1 ?_;simp only[Act.put,zh,zf,zg];refine zD 7 (some 4) (.bool bo) rfl rfl (λ_ _=>rfl) hH1 ?_;simp only[Act.put,zh,zf,zg];refine wpAnyH_done (by kernel_rfl) ?_ _
 go_wp2
 go_ret
 exact⟨rfl,hb1'⟩
theorem GL(g:Nat)(rest:Nat→Nat)(n L:Nat)(w:World)(hn:n≤8192)(hL:L≤8192)(hr:∀d,d≤L→rest d≤100000)(hm:∀a b,a≤b→b≤L→rest a≤rest b)
 (eg:∀args w,(callFunc g args).run Tryz.prog w= .ok (.enter g args) w)
 (hf:∀(d:Nat) (W:World),d≤L→Calls Tryz.prog g #[.int .i64 (d:Nat)] W λe W'=>e= .returned (.int .i64 (rest d:Nat))∧Below W.heap.size W W'):
 Calls Tryz.prog 145 #[.int .i64 (n:Nat),.int .i64 (L:Nat),.func (.func g) #[] #[]] w λe w'=>∃r:Nat,e= .returned (.tuple #[.int .i64 (r:Nat),.int .i64 (rest r:Nat)])∧j0 L (xN rest n) r∧Below w.heap.size w w':=by
 obtain⟨W0,hW0⟩:∃W0,W0=(w.alloc (.cells #[.int .i64 (n:Nat)] 3)).alloc (.cells #[.func (.func g) #[] #[]] 96):=⟨_,rfl⟩
 have hs0:W0.heap.size=w.heap.size+2:=by rw[hW0];simp
 have hy0:zm W0 w.heap.size 3 #[.int .i64 (n:Nat)]:=by rw[hW0];exact(zm.new _ _ _).alloc _
 have hx0:zm W0 (w.heap.size+1) 96 #[.func (.func g) #[] #[]]:=by rw[hW0];exact zm.new_at (by simp)
 have hB0:Below w.heap.size w W0:=by rw[hW0];exact((Below.refl _ w).alloc (Nat.le_refl _) _).alloc (by simp) _
 have hG:=VP 150 #[.pointer (some ⟨w.heap.size+1,0,none⟩),.pointer (some ⟨w.heap.size,0,none⟩)] L (xN rest n) W0 (enters_of Tryz.func150 (by kernel_rfl) rfl) (by omega)
  (λd W hd hb=>dF g (w.heap.size+1) w.heap.size rest d n W hn (by omega) (hr d hd) eg (hx0.below hb (by omega)) (hy0.below hb (by omega)) (λW=>hf d W hd))
  (λa b hab hb h=>dR hm a b hab hb h)
 have HG:Hid (Calls Tryz.prog 128 #[.int .i64 (L:Nat),.func (.func 150) #[] #[.pointer (some ⟨w.heap.size+1,0,none⟩),.pointer (some ⟨w.heap.size,0,none⟩)]] W0 λe w'=>∃r:Nat,e= .returned (.int .i64 (r:Nat))∧j0 L (xN rest n) r∧Below W0.heap.size W0 w'):=hG;have hy0c:=hy0.cell 0;simp only[List.getElem?_toArray,List.getElem?_cons_zero]at hy0c;have HF:Hid (∀(d:Nat) (W:World),d≤L→Calls Tryz.prog g #[.int .i64 (d:Nat)] W λe W'=>e= .returned (.int .i64 (rest d:Nat))∧Below W.heap.size W W'):=hf;clear hG hf hr hm;go_enter Tryz.func145,Tryz.ntmps145
 go_wp2_with (first
  |((go_at_call 126)
    refine(yB _ _ _ _ ⟨by omega,by omega⟩).mono ?_;(rintro e w1 ⟨rfl,rfl⟩))
  |((go_at_call 128)
    rw[←hW0];refine HG.out.mono ?_;rintro e w1 ⟨r,rfl,h1,h4⟩;(have hxc:=(hx0.below h4 hx0.lt).cell 0))
  |((go_at_fn g)
    refine(HF.out r _ h1.1).mono ?_;(rintro e w2 ⟨rfl,h5⟩)))
 go_ret2
 exact⟨r,rfl,h1,(hB0.trans (h4.mono (by omega))).trans (h5.mono (by have:=h4.size;omega))⟩
theorem kQ(n:Nat)(w:World)(h:n≤8192):Calls Tryz.prog 132 #[.int .i64 (n:Nat)] w λe w'=>∃r:Nat,e= .returned (.tuple #[.int .i64 (r:Nat),.int .i64 (tg r:Nat)])∧j0 8192 (xN tg n) r∧Below w.heap.size w w':=by
 have hs:=GL 146 tg n 8192 w h (by omega) (λd hd=>by unfold tg;omega) (λa b hab _=>zaS a b hab) (enters_of Tryz.func146 (by kernel_rfl) rfl)
  (λd W hd=>(zbU d W hd).mono (by rintro e W' ⟨rfl,rfl⟩;exact⟨rfl,Below.refl _ _⟩))
 generalize ((n:Nat):Int)=N at hs ⊢;clear h;go_enter Tryz.func132,Tryz.ntmps132
 go_wp2_with (first
  |((go_at_call 145)
    refine hs.mono ?_;(rintro e w1 ⟨r,rfl,h1,hb⟩)))
 go_ret2
 exact⟨r,rfl,h1,hb⟩
theorem Du(n:Nat)(w:World)(h:n≤8192):Calls Tryz.prog 133 #[.int .i64 (n:Nat)] w λe w'=>∃r:Nat,e= .returned (.tuple #[.int .i64 (r:Nat),.int .i64 (hs r:Nat)])∧j0 2048 (xN hs n) r∧Below w.heap.size w w':=by
 have hs:=GL 147 hs n 2048 w h (by omega) (λd hd=>by have:=gK d;omega) (λa b hab hb=>zaZ hab hb) (enters_of Tryz.func147 (by kernel_rfl) rfl)
  (λd W hd=>DY d W (by omega))
 generalize ((n:Nat):Int)=N at hs ⊢;clear h;go_enter Tryz.func133,Tryz.ntmps133
 go_wp2_with (first
  |((go_at_call 145)
    refine hs.mono ?_;(rintro e w1 ⟨r,rfl,h1,hb⟩)))
 go_ret2
 exact⟨r,rfl,h1,hb⟩
theorem xp{f:FuncId}{args:Array Value}{w:World}{R:Ending→World→Prop}(i:Nat)(v:Value)(h:args[i]?=some v)(k:Calls Tryz.prog f args w R):Calls Tryz.prog f args w R:=k
theorem dA(s table chunk n b1 b2 b3:Nat)(W:World)(h1:s≤8192)(h2:table≤8192)(h3:chunk≤16)(c1:W.cell? ⟨b1,0,none⟩=some (.int .i64 (table:Nat)))(c2:W.cell? ⟨b2,0,none⟩=some (.int .i64 (chunk:Nat)))(c3:W.cell? ⟨b3,0,none⟩=some (.int .i64 (n:Nat))):
 Calls Tryz.prog 129 #[.int .i64 (s:Nat),.pointer (some ⟨b1,0,none⟩),.pointer (some ⟨b2,0,none⟩),.pointer (some ⟨b3,0,none⟩)] W λe W'=>e= .returned (.bool (xa table chunk n s))∧Below W.heap.size W W':=by
 have hm:s*chunk≤8192*16:=Nat.mul_le_mul h1 h3
 have HF:Hid (decide ((table:Int)+(s:Int)*(chunk:Int)≤(n:Int))=xa table chunk n s):=(by unfold xa;exact decide_eq_decide.2 (by rw[←Int.natCast_mul];omega):decide ((table:Int)+(s:Int)*(chunk:Int)≤(n:Int))=xa table chunk n s)
 have hm2:(s:Int)*(chunk:Int)≤131072:=by rw[←Int.natCast_mul];omega
 have hm3:0≤(s:Int)*(chunk:Int):=by rw[←Int.natCast_mul];omega
 generalize xa table chunk n s=bo at HF ⊢;have ht1:0≤(table:Int):=by omega
 have ht2:(table:Int)≤8192:=by omega
 generalize (table:Int)=T at *;generalize (s:Int)=S at *;generalize (chunk:Int)=C at *;generalize (n:Int)=N at *;clear h1 h2 h3 hm;go_enter Tryz.func129,Tryz.ntmps129
 go_wp2
 go_ret
 rw[HF.out];exact⟨rfl,Below.refl _ _⟩
def stA(table s:Nat):Nat:=if s=0 then 0 else table
def jY(origin chunk:Nat):Nat:=(origin+chunk-1) / chunk
def vl(origin chunk:Nat):Nat:=(jY origin chunk+15) / 16
theorem YK{origin chunk:Nat}(h1:1≤origin)(h2:origin≤8192)(h3:1≤chunk):1≤jY origin chunk∧jY origin chunk≤8192:=by
 unfold jY;constructor
 ·exact(Nat.le_div_iff_mul_le (by omega)).2 (by omega)
 ·refine Nat.div_le_of_le_mul ?_
  have:=Nat.mul_le_mul_right (chunk-1) h1
  have e:chunk*8192=8192*(chunk-1)+8192:=by
   obtain⟨k,rfl⟩:∃k,chunk=k+1:=⟨chunk-1,by omega⟩
   simp only[Nat.add_sub_cancel];omega
  omega
theorem Ds(n o c:Int)(w:World)(h:¬((1≤n∧n≤8192)∧(1≤o∧o≤8192)∧(1≤c∧c≤16))):
 Calls Tryz.prog 106 #[.int .i64 n,.int .i64 o,.int .i64 c] w λe w'=>e= .returned (.tuple #[.int .i64 0,.int .i64 0])∧Below w.heap.size w w':=by
 have hb:∀a b,Below w.heap.size w ((w.alloc a).alloc b):=λa b=>((Below.refl _ w).alloc (Nat.le_refl _) _).alloc (by simp) _
 by_cases h1:1≤n∧n≤8192
 ·by_cases h2:1≤o∧o≤8192
  ·have h3:¬(1≤c∧c≤16):=λh3=>h ⟨h1,h2,h3⟩
   clear h;have H1:Hid (1≤n∧n≤8192):=h1;have H2:Hid (1≤o∧o≤8192):=h2;have H3:Hid (¬(1≤c∧c≤16)):=h3;clear h1 h2 h3;go_enter Tryz.func106,Tryz.ntmps106
   go_wp2_with (first
    |((go_at_call 126)
      refine xp 0 (.int .i64 n) rfl ?_;refine(yB _ _ _ _ H1.out).mono ?_;(rintro e w1 ⟨rfl,rfl⟩))
    |((go_at_call 126)
      refine xp 0 (.int .i64 o) rfl ?_;refine(yB _ _ _ _ H2.out).mono ?_;(rintro e w1 ⟨rfl,rfl⟩))
    |((go_at_call 126)
      refine(JC _ _ _ _ H3.out).mono ?_;(rintro e w1 ⟨rfl,rfl⟩)))
   go_ret2
   exact⟨rfl,hb _ _⟩
  ·clear h
   have H1:Hid (1≤n∧n≤8192):=h1;have H2:Hid (¬(1≤o∧o≤8192)):=h2;clear h1 h2;go_enter Tryz.func106,Tryz.ntmps106
   go_wp2_with (first
    |((go_at_call 126)
      refine xp 0 (.int .i64 n) rfl ?_;refine(yB _ _ _ _ H1.out).mono ?_;(rintro e w1 ⟨rfl,rfl⟩))
    |((go_at_call 126)
      refine xp 0 (.int .i64 o) rfl ?_;refine(JC _ _ _ _ H2.out).mono ?_;(rintro e w1 ⟨rfl,rfl⟩)))
   go_ret2
   exact⟨rfl,hb _ _⟩
 ·clear h
  have H1:Hid (¬(1≤n∧n≤8192)):=h1;clear h1;go_enter Tryz.func106,Tryz.ntmps106
  go_wp2_with (first
   |((go_at_call 126)
     refine(JC _ _ _ _ H1.out).mono ?_;(rintro e w1 ⟨rfl,rfl⟩)))
  go_ret2
  exact⟨rfl,hb _ _⟩
theorem zaj(n o c:Nat)(w:World)(h1:1≤n∧n≤8192)(h2:1≤o∧o≤8192)(h3:1≤c∧c≤16):
 Calls Tryz.prog 106 #[.int .i64 (n:Nat),.int .i64 (o:Nat),.int .i64 (c:Nat)] w λe w'=>∃s:Nat,e= .returned (.tuple #[.int .i64 (stA (vl o c) s:Nat),.int .i64 (s:Nat)])∧j0 (jY o c) (xa (vl o c) c n) s∧Below w.heap.size w w':=by
 have hcl:=YK h2.1 h2.2 h3.1
 have H1:Hid ((1:Int)≤(n:Int)∧(n:Int)≤8192):=(by omega:(1:Int)≤(n:Int)∧(n:Int)≤8192)
 have H2:Hid ((1:Int)≤(o:Int)∧(o:Int)≤8192):=(by omega:(1:Int)≤(o:Int)∧(o:Int)≤8192)
 have H3:Hid ((1:Int)≤(c:Int)∧(c:Int)≤16):=(by omega:(1:Int)≤(c:Int)∧(c:Int)≤16)
 have g1:=λW=>Vu o c W (by omega) (by omega) (by omega)
 have g2:=λW=>Vu (jY o c) 16 W (by omega) (by omega) (by omega)
 rw[show(o+c-1) / c=jY o c from rfl]at g1;rw[show(jY o c+16-1) / 16=vl o c from rfl]at g2;have ht:vl o c≤8192:=by unfold vl;omega
 generalize vl o c=T at *;generalize jY o c=K at *
 obtain⟨W0,hW0⟩:∃W0,W0=((w.alloc (.cells #[.int .i64 (n:Nat)] 3)).alloc (.cells #[.int .i64 (c:Nat)] 3)).alloc (.cells #[.int .i64 (T:Nat)] 3):=⟨_,rfl⟩
 have hs0:W0.heap.size=w.heap.size+3:=by rw[hW0];simp
 have c1:W0.cell? ⟨w.heap.size+1+1,0,none⟩=some (.int .i64 (T:Nat)):=by rw[hW0];simp[go_sem]
 have c2:W0.cell? ⟨w.heap.size+1,0,none⟩=some (.int .i64 (c:Nat)):=by rw[hW0];simp[go_sem]
 have c3:W0.cell? ⟨w.heap.size,0,none⟩=some (.int .i64 (n:Nat)):=by rw[hW0];simp[go_sem]
 have hB0:Below w.heap.size w W0:=by rw[hW0];exact(((Below.refl _ w).alloc (Nat.le_refl _) _).alloc (by simp) _).alloc (by simp;omega) _
 have hG:=VP 129 #[.pointer (some ⟨w.heap.size+1+1,0,none⟩),.pointer (some ⟨w.heap.size+1,0,none⟩),.pointer (some ⟨w.heap.size,0,none⟩)] K (xa T c n) W0 (enters_of Tryz.func129 (by kernel_rfl) rfl) (by omega)
  (λd W hd hb=>dA d T c n _ _ _ W (by omega) ht h3.2 (by rw[←c1];exact hb.cell (p:=⟨w.heap.size+1+1,0,none⟩) (by show w.heap.size+1+1<_;omega)) (by rw[←c2];exact hb.cell (p:=⟨w.heap.size+1,0,none⟩) (by show w.heap.size+1<_;omega)) (by rw[←c3];exact hb.cell (p:=⟨w.heap.size,0,none⟩) (by show w.heap.size<_;omega)))
  (λa b hab hb h=>FB a b hab h)
 have HG:Hid (Calls Tryz.prog 128 #[.int .i64 (K:Nat),.func (.func 129) #[] #[.pointer (some ⟨w.heap.size+1+1,0,none⟩),.pointer (some ⟨w.heap.size+1,0,none⟩),.pointer (some ⟨w.heap.size,0,none⟩)]] W0 λe w'=>∃r:Nat,e= .returned (.int .i64 (r:Nat))∧j0 K (xa T c n) r∧Below W0.heap.size W0 w'):=hG;clear hG;have C1:Hid (W0.cell? ⟨w.heap.size+1+1,0,none⟩=some (.int .i64 (T:Nat))):=c1;have G1:Hid (∀W,Calls Tryz.prog 127 #[.int .i64 (o:Nat),.int .i64 (c:Nat)] W λe w'=>e= .returned (.int .i64 (K:Nat))∧w'=W):=g1;have G2:Hid (∀W,Calls Tryz.prog 127 #[.int .i64 (K:Nat),.int .i64 16] W λe w'=>e= .returned (.int .i64 (T:Nat))∧w'=W):=g2;clear c1 c2 c3 h1 h2 h3 hcl g1 g2;go_enter Tryz.func106,Tryz.ntmps106
 go_wp2_with (first
  |((go_at_call 126)
    refine xp 0 (.int .i64 (n:Nat)) rfl ?_;refine(yB _ _ _ _ H1.out).mono ?_;(rintro e w1 ⟨rfl,rfl⟩))
  |((go_at_call 126)
    refine xp 0 (.int .i64 (o:Nat)) rfl ?_;refine(yB _ _ _ _ H2.out).mono ?_;(rintro e w1 ⟨rfl,rfl⟩))
  |((go_at_call 126)
    refine(yB _ _ _ _ H3.out).mono ?_;(rintro e w1 ⟨rfl,rfl⟩))
  |((go_at_call 127)
    refine xp 1 (.int .i64 16) rfl ?_;refine(G2.out _).mono ?_;(rintro e w1 ⟨rfl,rfl⟩))
  |((go_at_call 127)
    refine(G1.out _).mono ?_;(rintro e w1 ⟨rfl,rfl⟩))
  |((go_at_call 128)
    rw[←hW0];refine HG.out.mono ?_;rintro e w1 ⟨r,rfl,h1,h4⟩;have c1:w1.cell? ⟨w.heap.size+1+1,0,none⟩=some (.int .i64 (T:Nat)):=(h4.cell (p:=⟨w.heap.size+1+1,0,none⟩) (by show w.heap.size+1+1<_;omega)).trans C1.out;(clear HG hW0)))
 all_goals go_ret2
 ·rename_i hz
  obtain rfl:r=0:=by simpa using hz
  exact⟨0,rfl,h1,hB0.trans (h4.mono (by omega))⟩
 ·rename_i hz
  have hz':¬r=0:=by simpa using hz
  refine⟨r,?_,h1,hB0.trans (h4.mono (by omega))⟩;unfold stA;rw[if_neg hz'];rfl
theorem XS(rest:Nat→Nat)(n d:Nat)(b:Bool):xN rest n d=b↔((b=true∧d+rest d≤n)∨(b=false∧¬d+rest d≤n)):=by
 unfold xN;cases b<;>simp
theorem zci(n:Nat)(w:World)(h:n≤8192):Calls Tryz.prog 89 #[.int .i64 (n:Nat)] w λe w'=>∃r:Nat,e= .returned (.tuple #[.int .i64 (r:Nat),.int .i64 (tg r:Nat)])∧j0 8192 (xN tg n) r∧w'=w:=by
 go_enter Tryz.func89,Tryz.ntmps89
 go_wp2
 go_loop [4] (λd=>∃k:Nat,k≤8192∧d= .int .i64 k∧(∀t,t<k→xN tg n (t+1)=true)) (λd=>8193-(intOf d).toNat)
 case atStart=>exact⟨0,by omega,rfl,λt ht=>absurd ht (Nat.not_lt_zero _)⟩
 case round =>
  obtain⟨k,hk,rfl,hall⟩:=hrel;have HA:Hid (∀t,t<k→xN tg n (t+1)=true):=hall;clear hall;by_cases hlt:k+1+tg (k+1)≤n
  ·have hf:Hid (xN tg n (k+1)=true):=((XS _ _ _ _).2 (.inl ⟨rfl,hlt⟩):xN tg n (k+1)=true)
   have hi:(k:Int)+1+((k:Int)+4) / 4≤(n:Int):=by unfold tg at hlt;omega
   have hk2:k+1≤8192:=by omega
   clear hlt
   go_wp2
   go_round
   case rel=>exact⟨k+1,hk2,by go_num,λt ht=>by
    by_cases e:t<k
    ·exact HA.out t e
    ·obtain rfl:t=k:=by omega
     exact hf.out⟩
   case measure=>simp[intOf];omega
  ·have hf:Hid (xN tg n (k+1)=false):=((XS _ _ _ _).2 (.inr ⟨rfl,hlt⟩):xN tg n (k+1)=false)
   have hi:¬((k:Int)+1+((k:Int)+4) / 4≤(n:Int)):=by unfold tg at hlt;omega
   have HT:Hid (((k:Int)+3) / 4=((tg k:Nat):Int)):=(by unfold tg;omega:((k:Int)+3) / 4=((tg k:Nat):Int))
   clear hlt
   go_wp2
   go_ret2
   refine⟨k,?_,⟨hk,HA.out,λ_=>hf.out⟩,rfl⟩;rw[←HT.out];rfl
theorem JH(n:Nat)(w:World)(hn:n≤8192):Calls Tryz.prog 99 #[.int .i64 (n:Nat)] w λe w'=>e= .returned (.int .i64 (hs n:Nat))∧Below w.heap.size w w':=by
 have hL:=UL (n:Int) w ⟨by omega,by omega⟩;rw[Int.toNat_natCast]at hL;have HP:Hid (∀k,k≤Zw (n:Int)→off n k≤2058):=λk hk=>Nat.le_trans (UB n k hk) (gK n)
 have HE:Hid (off n (Zw (n:Int))=hs n):=rfl;have h11:=Ko (n:Int);generalize Zw (n:Int)=m at hL HP HE h11;generalize (n:Int)=N at hL ⊢;clear hn;go_enter Tryz.func99,Tryz.ntmps99
 go_wp2_with (first
  |((go_at_call 109)
    refine hL.mono ?_;(rintro e w1 ⟨a,c,rfl,hc1,hc2,hints,hb⟩)))
 go_loop [3,5] (λs i=>∃k:Nat,k≤m∧i= .int .i64 k∧s= .int .i64 (off n k:Nat)) (λ_ i=>m-(intOf i).toNat)
 case atStart=>exact⟨0,Nat.zero_le _,rfl,rfl⟩
 case round =>
  obtain⟨k,hk,rfl,rfl⟩:=hrel;have hp:=HP.out k hk;by_cases hlt:k<m
  ·have hp2:=HP.out (k+1) hlt
   have HS:Hid ((off n k:Int)+(lv n (k+1):Int)=((off n (k+1):Nat):Int)):=(by simp only[off];omega:(off n k:Int)+(lv n (k+1):Int)=((off n (k+1):Nat):Int))
   obtain⟨b,o,rfl,hbl,hcell⟩:=gi hints k hlt;have hv:lv n (k+1)≤2058:=by simp only[off]at hp2;omega
   clear hL hp2;generalize lv n (k+1)=v at *;generalize off n k=s at *
   go_wp2
   go_round
   case rel=>exact⟨k+1,hlt,by go_num,by rw[HS.out]⟩
   case measure=>simp[intOf];omega
  ·obtain rfl:k=m:=by omega
   clear hL
   go_wp2
   go_ret
   rw[HE.out];exact⟨rfl,hb⟩
theorem zcj(n:Nat)(w:World)(h:n≤8192):Calls Tryz.prog 88 #[.int .i64 (n:Nat)] w λe w'=>∃r:Nat,e= .returned (.tuple #[.int .i64 (r:Nat),.int .i64 (hs r:Nat)])∧j0 2048 (xN hs n) r∧Below w.heap.size w w':=by
 go_enter Tryz.func88,Tryz.ntmps88
 go_wp2
 go_loopw [4] (λd wr=>∃k:Nat,k≤2048∧d= .int .i64 k∧Hid (∀t,t<k→xN hs n (t+1)=true)∧Below w.heap.size w wr) (λd _=>2049-(intOf d).toNat)
 case atStart=>exact⟨0,by omega,rfl,(λt ht=>absurd ht (Nat.not_lt_zero _):∀t,t<0→xN hs n (t+1)=true),Below.refl _ _⟩
 case round =>
  obtain⟨k,hk,rfl,HA,hb⟩:=hrel;by_cases hk8:k<2048
  ·have hR:=λW=>JH (k+1) W (by omega)
   have hv:=gK (k+1);by_cases hlt:k+1+hs (k+1)≤n
   ·have hf:Hid (xN hs n (k+1)=true):=((XS _ _ _ _).2 (.inl ⟨rfl,hlt⟩):xN hs n (k+1)=true)
    generalize hs (k+1)=v at hR hlt hv
    go_wp2_with (first
     |((go_at_call 99)
       refine(hR _).mono ?_;(rintro e w1 ⟨rfl,hb1⟩)))
    go_roundw
    case rel=>exact⟨k+1,hk8,by go_num,(λt ht=>by
     by_cases e:t<k
     ·exact HA.out t e
     ·obtain rfl:t=k:=by omega
      exact hf.out:∀t,t<k+1→xN hs n (t+1)=true),hb.trans (hb1.mono hb.size)⟩
    case measure=>simp[intOf];omega
   ·have hf:Hid (xN hs n (k+1)=false):=((XS _ _ _ _).2 (.inr ⟨rfl,hlt⟩):xN hs n (k+1)=false)
    generalize hs (k+1)=v at hR hlt hv
    have hG:Hid (j0 2048 (xN hs n) k):=(⟨hk,HA.out,λ_=>hf.out⟩:j0 2048 (xN hs n) k)
    by_cases h0:k=0
    ·subst h0
     go_wp2_with (first
      |((go_at_call 99)
        refine(hR _).mono ?_;(rintro e w1 ⟨rfl,hb1⟩)))
     go_ret2
     exact⟨0,rfl,hG.out,hb.trans (hb1.mono hb.size)⟩
    ·have h0i:¬((k:Int)=0):=by omega
     have hR2:=λW=>JH k W (by omega)
     obtain⟨v2,hv2⟩:∃v2,v2=hs k:=⟨_,rfl⟩
     have HV:Hid (v2=hs k):=hv2;rw[←hv2]at hR2;clear hv2
     go_wp2_with (first
      |((go_at_call 99)
        refine xp 0 (.int .i64 ((k:Int)+1)) rfl ?_;refine(hR _).mono ?_;(rintro e w1 ⟨rfl,hb1⟩))
      |((go_at_call 99)
        refine(hR2 _).mono ?_;(rintro e w2 ⟨rfl,hb2⟩)))
     go_ret2
     refine⟨k,?_,hG.out,(hb.trans (hb1.mono hb.size)).trans (hb2.mono (by have:=hb.size;have:=hb1.size;omega))⟩;rw[←HV.out];rfl
  ·obtain rfl:k=2048:=by omega
   have hG:Hid (j0 2048 (xN hs n) 2048):=(⟨hk,HA.out,λh=>absurd h hk8⟩:j0 2048 (xN hs n) 2048)
   have hR2:=λW=>JH 2048 W (by omega)
   go_wp2_with (first
    |((go_at_call 99)
      refine(hR2 _).mono ?_;(rintro e w2 ⟨rfl,hb2⟩)))
   go_ret2
   exact⟨2048,rfl,hG.out,hb.trans (hb2.mono hb.size)⟩
theorem ft(n o c:Int)(w:World)(h:¬((1≤n∧n≤8192)∧(1≤o∧o≤8192)∧(1≤c∧c≤16))):
 Calls Tryz.prog 70 #[.int .i64 n,.int .i64 o,.int .i64 c] w λe w'=>e= .returned (.tuple #[.int .i64 0,.int .i64 0])∧w'=w:=by
 rcases(by omega:n<1∨(1≤n∧8192<n)∨(1≤n∧n≤8192∧o<1)∨(1≤n∧n≤8192∧1≤o∧8192<o)∨(1≤n∧n≤8192∧1≤o∧o≤8192∧c<1)∨(1≤n∧n≤8192∧1≤o∧o≤8192∧1≤c∧16<c))with h1|⟨h1,h2⟩|⟨h1,h2,h3⟩|⟨h1,h2,h3,h4⟩|⟨h1,h2,h3,h4,h5⟩|⟨h1,h2,h3,h4,h5,h6⟩
 all_goals
  clear h;go_enter Tryz.func70,Tryz.ntmps70
  go_wp2
  go_ret2
  exact⟨rfl,rfl⟩
theorem gE(T c n d:Nat)(b:Bool):xa T c n d=b↔((b=true∧T+d*c≤n)∨(b=false∧¬T+d*c≤n)):=by
 unfold xa;cases b<;>simp
theorem fI(n o c:Nat)(w:World)(h1:1≤n∧n≤8192)(h2:1≤o∧o≤8192)(h3:1≤c∧c≤16):
 Calls Tryz.prog 70 #[.int .i64 (n:Nat),.int .i64 (o:Nat),.int .i64 (c:Nat)] w λe w'=>∃s:Nat,e= .returned (.tuple #[.int .i64 (stA (vl o c) s:Nat),.int .i64 (s:Nat)])∧j0 (jY o c) (xa (vl o c) c n) s∧w'=w:=by
 have hcl:=YK h2.1 h2.2 h3.1
 have hd:((o:Int)+(c:Int)-1) / (c:Int)=(jY o c:Nat):=by
  unfold jY;rw[Int.natCast_ediv];congr 1;omega
 have ht:((jY o c:Int)+15) / 16=(vl o c:Nat):=by unfold vl;omega
 have htl:vl o c≤8192:=by unfold vl;omega
 obtain⟨h11,h12⟩:=h1;obtain⟨h21,h22⟩:=h2;obtain⟨h31,h32⟩:=h3;obtain⟨k1,k2⟩:=hcl;generalize vl o c=T at *;generalize jY o c=K at *;have hc0:¬((c:Int)=0):=by omega
 have hc1:¬((c:Int)= -1):=by omega
 go_enter Tryz.func70,Tryz.ntmps70
 go_wp2
 simp only[hd,ht];clear hd ht
 go_loop [10] (λd=>∃k:Nat,k≤K∧d= .int .i64 k∧Hid (∀t,t<k→xa T c n (t+1)=true)) (λd=>8193-(intOf d).toNat)
 case atStart=>exact⟨0,by omega,rfl,(λt ht=>absurd ht (Nat.not_lt_zero _):∀t,t<0→xa T c n (t+1)=true)⟩
 case round =>
  obtain⟨k,hk,rfl,HA⟩:=hrel;by_cases hkK:k<K
  ·have hm:(k+1)*c≤8192*16:=Nat.mul_le_mul (by omega) h32
   have hme:((k:Int)+1)*(c:Int)=(((k+1)*c:Nat):Int):=by rw[Int.natCast_mul];rfl
   have HME:Hid (((k:Int)+1)*(c:Int)=(((k+1)*c:Nat):Int)):=hme;have hm1:((k:Int)+1)*(c:Int)≤131072:=by rw[hme];omega
   have hm2:0≤((k:Int)+1)*(c:Int):=by rw[hme];omega
   by_cases hlt:T+(k+1)*c≤n
   ·have hf:Hid (xa T c n (k+1)=true):=((gE _ _ _ _ _).2 (.inl ⟨rfl,hlt⟩):xa T c n (k+1)=true)
    have hi:(T:Int)+((k:Int)+1)*(c:Int)≤(n:Int):=by rw[hme];omega
    clear hlt hme hm
    go_wp2
    go_round
    case rel=>exact⟨k+1,hkK,by go_num,(λt ht=>by
     by_cases e:t<k
     ·exact HA.out t e
     ·obtain rfl:t=k:=by omega
      exact hf.out:∀t,t<k+1→xa T c n (t+1)=true)⟩
    case measure=>simp[intOf];omega
   ·have hf:Hid (xa T c n (k+1)=false):=((gE _ _ _ _ _).2 (.inr ⟨rfl,hlt⟩):xa T c n (k+1)=false)
    have hi:¬((T:Int)+((k:Int)+1)*(c:Int)≤(n:Int)):=by rw[hme];omega
    have hG:Hid (j0 K (xa T c n) k):=(⟨hk,HA.out,λ_=>hf.out⟩:j0 K (xa T c n) k)
    clear hlt hme hm;by_cases h0:k=0
    ·subst h0
     go_wp2
     go_ret2
     exact⟨0,rfl,hG.out,rfl⟩
    ·have h0i:¬((k:Int)=0):=by omega
     go_wp2
     go_ret2
     refine⟨k,?_,hG.out,rfl⟩;unfold stA;rw[if_neg h0];rfl
  ·obtain rfl:k=K:=by omega
   have hG:Hid (j0 k (xa T c n) k):=(⟨hk,HA.out,λh=>absurd h hkK⟩:j0 k (xa T c n) k)
   have h0:¬k=0:=by omega
   have h0i:¬((k:Int)=0):=by omega
   go_wp2
   go_ret2
   refine⟨k,?_,hG.out,rfl⟩;unfold stA;rw[if_neg h0];rfl
structure R3 where
 d:Int
 f:Int
 c:Int
def R3.v(r:R3):Value:= .agg #[.int .i64 r.d,.int .i64 r.f,.int .i64 r.c]
def vx(f c:Int):Bool:=decide (0<c∧0≤f∧c≤2147483647∧f≤2147483647-c)
theorem ZB(f c:Int):vx f c=true↔(0<c∧0≤f∧c≤2147483647∧f≤2147483647-c):=by unfold vx;simp
theorem VD(f c:Int):vx f c=false↔ ¬(0<c∧0≤f∧c≤2147483647∧f≤2147483647-c):=by unfold vx;simp
def Zc(a b:R3):Bool:=decide (vx a.f a.c=true∧vx b.f b.c=true∧a.d=b.d∧a.f<b.f+b.c∧b.f<a.f+a.c)
theorem dB(a n:Int)(w:World)(h:0≤a∧0≤n∧n≤2147483647∧a≤2147483647-n):Calls Tryz.prog 108 #[.int .i64 a,.int .i64 n,.int .i64 2147483647] w λe w'=>e= .returned (.bool true)∧w'=w:=by
 obtain⟨h1,h2,h3,h4⟩:=h;go_enter Tryz.func108,Tryz.ntmps108
 go_wp2
 go_ret
 exact⟨rfl,rfl⟩
theorem zbd(a n:Int)(w:World)(h:¬(0≤a∧0≤n∧n≤2147483647∧a≤2147483647-n)):Calls Tryz.prog 108 #[.int .i64 a,.int .i64 n,.int .i64 2147483647] w λe w'=>e= .returned (.bool false)∧w'=w:=by
 rcases(by omega:a<0∨(0≤a∧n<0)∨(0≤a∧0≤n∧2147483647<n)∨(0≤a∧0≤n∧n≤2147483647∧¬a≤2147483647-n))with h1|⟨h1,h2⟩|⟨h1,h2,h3⟩|⟨h1,h2,h3,h4⟩
 case inr.inr.inr=>have h5:=decide_eq_false h4
                   clear h;go_enter Tryz.func108,Tryz.ntmps108
                   go_wp2
                   go_ret
                   exact⟨rfl,rfl⟩
 all_goals
  clear h;go_enter Tryz.func108,Tryz.ntmps108
  go_wp2
  go_ret
  exact⟨rfl,rfl⟩
theorem Gf(d f c:Int)(w:World):Calls Tryz.prog 98 #[.agg #[.int .i64 d,.int .i64 f,.int .i64 c]] w λe w'=>e= .returned (.bool (vx f c))∧Below w.heap.size w w':=by
 have hb:∀a,Below w.heap.size w (w.alloc a):=λa=>(Below.refl _ w).alloc (Nat.le_refl _) _
 by_cases h0:0<c
 ·by_cases h:0≤f∧0≤c∧c≤2147483647∧f≤2147483647-c
  ·have hl:vx f c=true:=(ZB f c).2 ⟨h0,h.1,h.2.2.1,h.2.2.2⟩
   have H:Hid (0≤f∧0≤c∧c≤2147483647∧f≤2147483647-c):=h;rw[hl];clear h hl;go_enter Tryz.func98,Tryz.ntmps98
   go_wp2_with (first
    |((go_at_call 108)
      refine(dB _ _ _ H.out).mono ?_;(rintro e w1 ⟨rfl,rfl⟩)))
   go_ret
   exact⟨rfl,hb _⟩
  ·have hl:vx f c=false:=(VD f c).2 (λk=>h ⟨k.2.1,by omega,k.2.2.1,k.2.2.2⟩)
   have H:Hid (¬(0≤f∧0≤c∧c≤2147483647∧f≤2147483647-c)):=h;rw[hl];clear h hl;go_enter Tryz.func98,Tryz.ntmps98
   go_wp2_with (first
    |((go_at_call 108)
      refine(zbd _ _ _ H.out).mono ?_;(rintro e w1 ⟨rfl,rfl⟩)))
   go_ret
   exact⟨rfl,hb _⟩
 ·have hl:vx f c=false:=(VD f c).2 (λk=>h0 k.1)
  rw[hl];clear hl;go_enter Tryz.func98,Tryz.ntmps98
  go_wp2
  go_ret
  exact⟨rfl,hb _⟩
theorem dW(d f c:Int)(w:World):Calls Tryz.prog 44 #[.agg #[.int .i64 d,.int .i64 f,.int .i64 c]] w λe w'=>e= .returned (.bool (vx f c))∧Below w.heap.size w w':=by
 have hb:∀a,Below w.heap.size w (w.alloc a):=λa=>(Below.refl _ w).alloc (Nat.le_refl _) _
 by_cases h:0<c∧0≤f∧c≤2147483647∧f≤2147483647-c
 ·rw[(ZB f c).2 h]
  have h1:1≤c:=by omega
  have h2:0≤f:=by omega
  have h3:f≤2147483647:=by omega
  have h4:c≤2147483647-f:=by omega
  clear h;go_enter Tryz.func44,Tryz.ntmps44
  go_wp2
  go_ret
  exact⟨rfl,hb _⟩
 ·rw[(VD f c).2 h]
  rcases(by omega:f<0∨(0≤f∧c<1)∨(0≤f∧1≤c∧2147483647<f)∨(0≤f∧1≤c∧f≤2147483647∧¬c≤2147483647-f))with h1|⟨h1,h2⟩|⟨h1,h2,h3⟩|⟨h1,h2,h3,h4⟩
  case inr.inr.inr=>have h5:=decide_eq_false h4
                    clear h;go_enter Tryz.func44,Tryz.ntmps44
                    go_wp2
                    go_ret
                    exact⟨rfl,hb _⟩
  all_goals
   clear h;go_enter Tryz.func44,Tryz.ntmps44
   go_wp2
   go_ret
   exact⟨rfl,hb _⟩
theorem Zx{a b:R3}(h:¬(vx a.f a.c=true∧vx b.f b.c=true∧a.d=b.d∧a.f<b.f+b.c∧b.f<a.f+a.c)):Zc a b=false:=by
 unfold Zc;exact decide_eq_false h
theorem Dc{a b:R3}(h:vx a.f a.c=true∧vx b.f b.c=true∧a.d=b.d∧a.f<b.f+b.c∧b.f<a.f+a.c):Zc a b=true:=by
 unfold Zc;exact decide_eq_true h
theorem vy{w:World}{g t:Nat}{x y z:Value}(h:zm w g t #[x,y,z]):w.cell? ⟨g,0,none⟩=some x∧w.cell? ⟨g,1,none⟩=some y∧w.cell? ⟨g,2,none⟩=some z:=⟨h.cell 0,h.cell 1,h.cell 2⟩
theorem db(a b:R3)(w:World):Calls Tryz.prog 85 #[a.v,b.v] w λe w'=>e= .returned (.bool (Zc a b))∧Below w.heap.size w w':=by
 obtain⟨ad,af,ac⟩:=a;obtain⟨bd,bf,bc⟩:=b
 obtain⟨W0,hW0⟩:∃W0,W0=(w.alloc (.cells #[.int .i64 ad,.int .i64 af,.int .i64 ac] 42)).alloc (.cells #[.int .i64 bd,.int .i64 bf,.int .i64 bc] 42):=⟨_,rfl⟩
 have hB0:Below w.heap.size w W0:=by rw[hW0];exact((Below.refl _ w).alloc (Nat.le_refl _) _).alloc (by simp) _
 have hs0:W0.heap.size=w.heap.size+2:=by rw[hW0];simp
 have hA:zm W0 w.heap.size 42 #[.int .i64 ad,.int .i64 af,.int .i64 ac]:=by rw[hW0];exact(zm.new _ _ _).alloc _
 have hB:zm W0 (w.heap.size+1) 42 #[.int .i64 bd,.int .i64 bf,.int .i64 bc]:=by rw[hW0];exact zm.new_at (by simp)
 have hla:=Gf ad af ac W0;by_cases h1:vx af ac=true
 ·rw[h1]at hla
  have HA:Hid (Calls Tryz.prog 98 #[.agg #[.int .i64 ad,.int .i64 af,.int .i64 ac]] W0 λe w'=>e= .returned (.bool true)∧Below W0.heap.size W0 w'):=hla;obtain⟨l1,l2,l3,l4⟩:=(ZB af ac).1 h1;clear hla;by_cases h2:vx bf bc=true
  ·have HB:Hid (∀W,Calls Tryz.prog 98 #[.agg #[.int .i64 bd,.int .i64 bf,.int .i64 bc]] W λe w'=>e= .returned (.bool true)∧Below W.heap.size W w'):=λW=>by rw[←h2];exact Gf bd bf bc W
   obtain⟨m1,m2,m3,m4⟩:=(ZB bf bc).1 h2;by_cases h3:ad=bd
   ·by_cases h4:af<bf+bc
    ·by_cases h5:bf<af+ac
     ·rw[Dc (a:=⟨ad,af,ac⟩) (b:=⟨bd,bf,bc⟩) ⟨h1,h2,h3,h4,h5⟩]
      simp only[R3.v];subst h3;clear h1 h2;go_enter Tryz.func85,Tryz.ntmps85
      go_wp2_with (first
       |((go_at_call 98)
         refine xp 0 (.agg #[.int .i64 ad,.int .i64 af,.int .i64 ac]) rfl ?_;rw[←hW0];refine HA.out.mono ?_;rintro e w1 ⟨rfl,hb1⟩;obtain⟨a0,a1,a2⟩:=vy (hA.below hb1 hA.lt);(obtain⟨b0,b1,b2⟩:=vy (hB.below hb1 hB.lt)))
       |((go_at_call 98)
         refine(HB.out _).mono ?_;rintro e w2 ⟨rfl,hb2⟩;obtain⟨x0,x1,x2⟩:=vy ((hA.below hb1 hA.lt).below hb2 (hA.below hb1 hA.lt).lt);(obtain⟨y0,y1,y2⟩:=vy ((hB.below hb1 hB.lt).below hb2 (hB.below hb1 hB.lt).lt))))
      go_ret
      exact⟨rfl,(hB0.trans (hb1.mono (by omega))).trans (hb2.mono (by have:=hb1.size;omega))⟩
     ·rw[Zx (a:=⟨ad,af,ac⟩) (b:=⟨bd,bf,bc⟩) (λk=>h5 k.2.2.2.2)]
      have h6:=decide_eq_false h5;simp only[R3.v];subst h3;clear h1 h2;go_enter Tryz.func85,Tryz.ntmps85
      go_wp2_with (first
       |((go_at_call 98)
         refine xp 0 (.agg #[.int .i64 ad,.int .i64 af,.int .i64 ac]) rfl ?_;rw[←hW0];refine HA.out.mono ?_;rintro e w1 ⟨rfl,hb1⟩;obtain⟨a0,a1,a2⟩:=vy (hA.below hb1 hA.lt);(obtain⟨b0,b1,b2⟩:=vy (hB.below hb1 hB.lt)))
       |((go_at_call 98)
         refine(HB.out _).mono ?_;rintro e w2 ⟨rfl,hb2⟩;obtain⟨x0,x1,x2⟩:=vy ((hA.below hb1 hA.lt).below hb2 (hA.below hb1 hA.lt).lt);(obtain⟨y0,y1,y2⟩:=vy ((hB.below hb1 hB.lt).below hb2 (hB.below hb1 hB.lt).lt))))
      go_ret
      exact⟨rfl,(hB0.trans (hb1.mono (by omega))).trans (hb2.mono (by have:=hb1.size;omega))⟩
    ·rw[Zx (a:=⟨ad,af,ac⟩) (b:=⟨bd,bf,bc⟩) (λk=>h4 k.2.2.2.1)]
     simp only[R3.v];subst h3;clear h1 h2;go_enter Tryz.func85,Tryz.ntmps85
     go_wp2_with (first
      |((go_at_call 98)
        refine xp 0 (.agg #[.int .i64 ad,.int .i64 af,.int .i64 ac]) rfl ?_;rw[←hW0];refine HA.out.mono ?_;rintro e w1 ⟨rfl,hb1⟩;obtain⟨a0,a1,a2⟩:=vy (hA.below hb1 hA.lt);(obtain⟨b0,b1,b2⟩:=vy (hB.below hb1 hB.lt)))
      |((go_at_call 98)
        refine(HB.out _).mono ?_;rintro e w2 ⟨rfl,hb2⟩;obtain⟨x0,x1,x2⟩:=vy ((hA.below hb1 hA.lt).below hb2 (hA.below hb1 hA.lt).lt);(obtain⟨y0,y1,y2⟩:=vy ((hB.below hb1 hB.lt).below hb2 (hB.below hb1 hB.lt).lt))))
     go_ret
     exact⟨rfl,(hB0.trans (hb1.mono (by omega))).trans (hb2.mono (by have:=hb1.size;omega))⟩
   ·rw[Zx (a:=⟨ad,af,ac⟩) (b:=⟨bd,bf,bc⟩) (λk=>h3 k.2.2.1)]
    simp only[R3.v];clear h1 h2;go_enter Tryz.func85,Tryz.ntmps85
    go_wp2_with (first
     |((go_at_call 98)
       refine xp 0 (.agg #[.int .i64 ad,.int .i64 af,.int .i64 ac]) rfl ?_;rw[←hW0];refine HA.out.mono ?_;rintro e w1 ⟨rfl,hb1⟩;obtain⟨a0,a1,a2⟩:=vy (hA.below hb1 hA.lt);(obtain⟨b0,b1,b2⟩:=vy (hB.below hb1 hB.lt)))
     |((go_at_call 98)
       refine(HB.out _).mono ?_;rintro e w2 ⟨rfl,hb2⟩;obtain⟨x0,x1,x2⟩:=vy ((hA.below hb1 hA.lt).below hb2 (hA.below hb1 hA.lt).lt);(obtain⟨y0,y1,y2⟩:=vy ((hB.below hb1 hB.lt).below hb2 (hB.below hb1 hB.lt).lt))))
    go_ret
    exact⟨rfl,(hB0.trans (hb1.mono (by omega))).trans (hb2.mono (by have:=hb1.size;omega))⟩
  ·have HB:Hid (∀W,Calls Tryz.prog 98 #[.agg #[.int .i64 bd,.int .i64 bf,.int .i64 bc]] W λe w'=>e= .returned (.bool false)∧Below W.heap.size W w'):=λW=>by rw[←(show vx bf bc=false by simpa using h2)];exact Gf bd bf bc W
   rw[Zx (a:=⟨ad,af,ac⟩) (b:=⟨bd,bf,bc⟩) (λk=>h2 k.2.1)];simp only[R3.v];clear h1 h2;go_enter Tryz.func85,Tryz.ntmps85
   go_wp2_with (first
    |((go_at_call 98)
      refine xp 0 (.agg #[.int .i64 ad,.int .i64 af,.int .i64 ac]) rfl ?_;rw[←hW0];refine HA.out.mono ?_;rintro e w1 ⟨rfl,hb1⟩;obtain⟨a0,a1,a2⟩:=vy (hA.below hb1 hA.lt);(obtain⟨b0,b1,b2⟩:=vy (hB.below hb1 hB.lt)))
    |((go_at_call 98)
      refine(HB.out _).mono ?_;rintro e w2 ⟨rfl,hb2⟩;obtain⟨x0,x1,x2⟩:=vy ((hA.below hb1 hA.lt).below hb2 (hA.below hb1 hA.lt).lt);(obtain⟨y0,y1,y2⟩:=vy ((hB.below hb1 hB.lt).below hb2 (hB.below hb1 hB.lt).lt))))
   go_ret
   exact⟨rfl,(hB0.trans (hb1.mono (by omega))).trans (hb2.mono (by have:=hb1.size;omega))⟩
 ·rw[Zx (a:=⟨ad,af,ac⟩) (b:=⟨bd,bf,bc⟩) (λk=>h1 k.1)]
  rw[show vx af ac=false by simpa using h1]at hla;have HA:Hid (Calls Tryz.prog 98 #[.agg #[.int .i64 ad,.int .i64 af,.int .i64 ac]] W0 λe w'=>e= .returned (.bool false)∧Below W0.heap.size W0 w'):=hla;simp only[R3.v];clear h1 hla;go_enter Tryz.func85,Tryz.ntmps85
  go_wp2_with (first
   |((go_at_call 98)
     rw[←hW0];refine HA.out.mono ?_;(rintro e w1 ⟨rfl,hb1⟩)))
  go_ret
  exact⟨rfl,hB0.trans (hb1.mono (by omega))⟩
end
section
structure Pt where
 kind:Nat
 size:Nat
 kids:List Nat
 dev:Nat
 first:Nat
 chunk:Nat
 key:List UInt8
 root:List UInt8
structure Mn where
 word:List UInt8
 node:Nat
 bytes:List UInt8
abbrev vJ:=List (List UInt8×Mn)
abbrev Er:=Nat×Int
def lk(ns:vJ)(s:List UInt8):Option Mn:=(ns.find? (λx=>x.1==s)).map (·.2)
def jr(ns:vJ)(ws:List (List UInt8)):Nat:=(ns.filter (λx=>ws.any (λy=>x.2.word==y))).length
def jk(ns:vJ)(n:Nd)(ws:List (List UInt8)):Except Er Mn:=match lk ns n.s with
 |none=> .error (131,n.a)
 |some m=>if ws.any (λy=>m.word==y)then .ok m else .error (133,n.a)
def xK(o:List Bool)(p:Pt):Bool:=p.kind==8||(if p.kind==5 then p.kids.drop 1 else p.kids).any λk=>o.getD k false
def zR(ps:List Pt):List Bool:=ps.foldl (λo p=>o++ [xK o p]) []
def zx(ps:List Pt)(k:Nat):Pt:=ps.getD k ⟨0,0,[],0,0,0,[],[]⟩
def sz(ps:List Pt)(k:Nat):Nat:=(zx ps k).size
def DK(L:Nat)(F:Nat→Bool):Nat:=match L with
 |0=>0
 |L+1=>let r:=DK L F
       if r=L∧F (L+1)=true then L+1 else r
theorem Qg(L:Nat)(F:Nat→Bool):j0 L F (DK L F):=by
 induction L with
 |zero=>exact⟨Nat.le_refl _,λt h=>absurd h (Nat.not_lt_zero _),λh=>absurd h (Nat.not_lt_zero _)⟩
 |succ L ih =>
  obtain⟨h1,h2,h3⟩:=ih;unfold DK;show j0 (L+1) F (if DK L F=L∧F (L+1)=true then L+1 else DK L F);generalize DK L F=r at *;by_cases e:r=L∧F (L+1)=true
  ·rw[if_pos e]
   obtain⟨rfl,e2⟩:=e;refine⟨Nat.le_refl _,λt ht=>?_,λh=>absurd h (Nat.lt_irrefl _)⟩;by_cases e3:t<r
   ·exact h2 t e3
   ·obtain rfl:t=r:=by omega
    exact e2
  ·rw[if_neg e]
   refine⟨by omega,h2,λ_=>?_⟩;by_cases e3:r<L
   ·exact h3 e3
   ·obtain rfl:r=L:=by omega
    cases hF:F (r+1)with
    |false=>rfl
    |true=>exact absurd ⟨rfl,hF⟩ e
def dI(n:Nat):Nat:=DK 8192 (xN tg n)
def dV(n:Nat):Nat:=DK 2048 (xN hs n)
def slt(n o:Nat)(c:Int):Nat:=if(1≤n∧n≤8192)∧(1≤o∧o≤8192)∧(1≤c∧c≤16)then DK (jY o c.toNat) (xa (vl o c.toNat) c.toNat n)else 0
def hv1(b:UInt8):Nat:=if 97≤b.toNat then b.toNat-87 else b.toNat-48
def qw:List UInt8→List UInt8
 |a::b::r=>UInt8.ofNat (16*hv1 a+hv1 b)::qw r
 |_=> []
def jR(n:Nd):List Nd:=n.l.filter λx=> !(x.op==vu||x.op==jM)
def zH(l:List Nd)(k:Nat):Nd:=l.getD k (.mk [] [] 0 0 [])
def xZ(ps:List Pt)(n:Nd)(ks:List Nat):Except Er Pt:=
 if ¬(2≤ks.length∧ks.length≤4)then .error (135,n.a)
 else if n.op=qQ then
  if(ks.map (sz ps)).sum≤8192 then .ok ⟨3,(ks.map (sz ps)).sum,ks,0,0,0,[],[]⟩else .error (134,n.a)
 else if ks.all (λk=>sz ps k==sz ps (ks.getD 0 0))then .ok ⟨4,sz ps (ks.getD 0 0),ks,0,0,0,[],[]⟩else .error (134,n.a)
def jE(ns:vJ)(n:Nd)(size:Nat)(ks:List Nat):Except Er Pt:=
 if n.op=jl then match jk ns (zH n.l 1) [zM]with
  | .error e=> .error e
  | .ok m=>if m.bytes.take 16=m.bytes.drop 16 then .error (135,n.a)else .ok ⟨6,size,ks,0,0,0,m.bytes,[]⟩
 else if n.op=qb then match jk ns (zH n.l 1) [zM]with
  | .error e=> .error e
  | .ok m=>if dI size=0 then .error (134,n.a)else .ok ⟨7,dI size,ks,0,0,0,m.bytes,[]⟩
 else match jk ns (zH n.l 1) [zN]with
  | .error e=> .error e
  | .ok m=>if dV size=0 then .error (134,n.a)else .ok ⟨8,dV size,ks,0,0,0,[],m.bytes⟩
def jD(ns:vJ)(ps:List Pt)(n:Nd)(ks:List Nat):Except Er Pt:=
 if n.op=qX then
  if 0<(zH n.l 2).n∧(zH n.l 1).n+(zH n.l 2).n≤sz ps (ks.getD 0 0)then .ok ⟨2,(zH n.l 2).n.toNat,ks,0,(zH n.l 1).n.toNat,0,[],[]⟩else .error (134,n.a)
 else if n.op=qQ∨n.op=je then xZ ps n ks
 else if n.op=qv then
  if slt (sz ps (ks.getD 1 0)) (sz ps (ks.getD 0 0)) (zH n.l 2).n=0 then .error (134,n.a)
  else if(zR ps).getD (ks.getD 1 0) false then .error (139,n.a)
  else .ok ⟨5,sz ps (ks.getD 0 0),ks,0,0,(zH n.l 2).n.toNat,[],[]⟩
 else jE ns n (sz ps (ks.getD 0 0)) ks
def jz(f:List Pt→Nd→Except Er (Nat×List Pt)):List Pt→List Nd→Except Er (List Nat×List Pt)
 |ps,[]=> .ok ([],ps)
 |ps,x::l=>match f ps x with
  | .error e=> .error e
  | .ok (k,p1)=>match jz f p1 l with
    | .error e=> .error e
    | .ok (ks,p2)=> .ok (k::ks,p2)
def jb(ns:vJ):Nat→List Pt→Nd→Except Er (Nat×List Pt)
 |0,ps,n=> .error (0,0)
 |d+1,ps,n=>if n.op=vK then match jk ns n [zn,zB]with
   | .error e=> .error e
   | .ok m=> .ok (m.node,ps)
  else match jz (jb ns d) ps (jR n)with
   | .error e=> .error e
   | .ok (ks,p1)=>if 64≤p1.length then .error (137,n.a)else match jD ns p1 n ks with
     | .error e=> .error e
     | .ok p=> .ok (p1.length,p1++ [p])
structure Ck where
 devs:List Nat
 jour:Option Nat
 parts:List Pt
 expo:Option Nat
 ro:Bool
 eat:Int
 names:vJ
def full(ns:vJ)(op:List UInt8):Bool:=
 if op=zn∨op=zq then jr ns [zn,zq]==8
 else if op=zM∨op=zN then jr ns [zM,zN]==8
 else jr ns [zB]==16
def j9(c:Ck)(n:Nd):Except Er (Ck×Mn):=
 if n.op=zq then
  if ¬(256≤n.n∧n.n≤2048)then .error (134,n.a)
  else if c.jour.isSome then .error (138,n.a)
  else .ok ({ c with jour:=some c.devs.length,devs:=c.devs++ [n.n.toNat] },⟨n.op,jr c.names [zn],[]⟩)
 else if n.op=zn then
  if ¬(1≤n.n∧n.n≤2048)then .error (134,n.a)
  else .ok ({ c with devs:=c.devs++ [n.n.toNat] },⟨n.op,jr c.names [zn],[]⟩)
 else if n.op=zM∨n.op=zN then
  if(zH n.l 0).s.length≠64 then .error (135,n.a)else .ok (c,⟨n.op,0,qw (zH n.l 0).s⟩)
 else match jb c.names 12 c.parts (zH n.l 0)with
  | .error e=> .error e
  | .ok (k,ps)=> .ok ({ c with parts:=ps },⟨n.op,k,[]⟩)
def yA(c:Ck)(n:Nd):Except Er Ck:=
 if c.expo.isSome then .error (138,n.a)
 else match jk c.names n [zn,zB]with
  | .error e=> .error e
  | .ok m=> .ok { c with expo:=some m.node,ro:=decide (n.n=1)||(zR c.parts).getD m.node false,eat:=n.a }
def jm(c:Ck)(n:Nd):Except Er Ck:=
 if n.op=qj then yA c n
 else if(lk c.names n.s).isSome then .error (132,n.a)
 else if full c.names n.op then .error (137,n.a)
 else match j9 c n with
  | .error e=> .error e
  | .ok (c1,m)=> .ok { c1 with names:=c1.names++ [(n.s,m)] }
def vq:Ck→List Nd→Except Er Ck
 |c,[]=> .ok c
 |c,x::l=>match jm c x with
  | .error e=> .error e
  | .ok c1=>vq c1 l
def disks:Nat→List Nd→List Pt
 |_,[]=> []
 |d,x::l=>if x.op=zn then⟨1,x.n.toNat,[],d,0,0,[],[]⟩::disks (d+1) l else if x.op=zq then disks (d+1) l else disks d l
def jF(ps:List Pt)(p f c:Int):Bool:=decide (0≤p∧p<ps.length∧0≤f∧0<c∧f≤(sz ps p.toNat:Int)-c)
def xb(ps:List Pt)(g:List R3→Nat→Int→Int→List R3)(out:List R3)(p:Pt)(f c:Int):List R3:=
 if p.kind=1 then out++ [⟨p.dev,f,c⟩]
 else if p.kind=2 then p.kids.foldl (λo k=>g o k (f+p.first) c) out
 else if p.kind=4∨p.kind=6 then p.kids.foldl (λo k=>g o k f c) out
 else if p.kind=3 then(p.kids.foldl (λ(x:List R3×Int) k=>(g x.1 k (max (f-x.2) 0) (min (f+c-x.2) (sz ps k)-max (f-x.2) 0),x.2+sz ps k)) (out,0)).1
 else if p.kind=5 then g (g out (p.kids.getD 0 0) f c) (p.kids.getD 1 0) 0 (sz ps (p.kids.getD 1 0))
 else if p.kind=7∨p.kind=8 then g out (p.kids.getD 0 0) 0 (sz ps (p.kids.getD 0 0))
 else out
def yx(ps:List Pt):Nat→List R3→Nat→Int→Int→List R3
 |0,out,_,_,_=>out
 |d+1,out,k,f,c=>if 256<out.length∨jF ps k f c=false then out else xb ps (yx ps d) out (zx ps k) f c
def xt(ps:List Pt)(p f c:Int):List R3:=if jF ps p f c=false then[]else yx ps ps.length [] p.toNat f c
def xM(l:List R3):Bool:=(List.range l.length).any λb=>(List.range b).any λa=>Zc (l.getD a ⟨0,0,0⟩) (l.getD b ⟨0,0,0⟩)
structure Km where
 devs:List Nat
 jour:Nat
 parts:List Pt
 expo:Nat
 ro:Bool
def vA(c:Ck):Except Er Km:=match c.jour,c.expo with
 |some j,some x=>if 256<(xt c.parts x 0 (sz c.parts x)).length then .error (137,c.eat)
  else if xM (xt c.parts x 0 (sz c.parts x))then .error (136,c.eat)
  else .ok ⟨c.devs,j,c.parts,x,c.ro⟩
 |_,_=> .error (138,0)
def UU(n:Nd):Except Er Km:=match vq ⟨[],none,disks 0 n.l,none,false,0,[]⟩ n.l with
 | .error e=> .error e
 | .ok c=>vA c
end
section
def xB(ps:List Pt)(k:Nat):Prop:=k<ps.length∧1≤sz ps k∧sz ps k≤8192
structure yZ (ps:List Pt) (p:Pt):Prop where
 kids:∀k ∈ p.kids,xB ps k
 some':p.kids≠ []
 lo:1≤p.size
 hi:p.size≤8192
 kind:2≤p.kind∧p.kind≤8
 lin:p.kind=2→p.first+p.size≤sz ps (p.kids.getD 0 0)
 cat:p.kind=3→p.size=(p.kids.map (sz ps)).sum
 mir:p.kind=4→∀k ∈ p.kids,sz ps k=p.size
 snap:p.kind=5→p.kids.length=2∧sz ps (p.kids.getD 0 0)=p.size
 cry:p.kind=6→sz ps (p.kids.getD 0 0)=p.size
 one:(p.kind=2∨p.kind=6∨p.kind=7∨p.kind=8)→p.kids.length=1
structure zaV (ps:List Pt) (p:Pt):Prop extends yZ ps p where
 four:p.kids.length≤4
 fst:p.first≤8192
def yH(ns:vJ)(ps:List Pt):Prop:=∀x ∈ ns,((x.2.word=zn∨x.2.word=zB)→xB ps x.2.node)∧((x.2.word=zM∨x.2.word=zN)→x.2.bytes.length=32)
theorem FX(ps qs:List Pt){k:Nat}(h:k<ps.length):zx (ps++qs) k=zx ps k:=by
 unfold zx;rw[List.getD_eq_getElem?_getD,List.getD_eq_getElem?_getD,List.getElem?_append_left h]
theorem UK(ps qs:List Pt)(p:Pt):zx (ps++p::qs) ps.length=p:=by
 unfold zx;rw[List.getD_eq_getElem?_getD,List.getElem?_append_right (Nat.le_refl _)];simp
theorem GI(ps qs:List Pt){k:Nat}(h:k<ps.length):sz (ps++qs) k=sz ps k:=by unfold sz;rw[FX ps qs h]
theorem xB.more{ps:List Pt}{k:Nat}(h:xB ps k)(qs:List Pt):xB (ps++qs) k:=by
 refine⟨by have:=h.1;simp;omega,?_⟩;rw[GI ps qs h.1];exact h.2
theorem yH.more{ns:vJ}{ps:List Pt}(h:yH ns ps)(qs:List Pt):yH ns (ps++qs):=λx hx=>⟨λe=>((h x hx).1 e).more qs,(h x hx).2⟩
def Grown':List Pt→List Pt→Prop
 |_,[]=>True
 |ps,p::qs=>zaV ps p∧Grown' (ps++ [p]) qs
theorem Grown'.app{qs rs:List Pt}:∀ {ps:List Pt},Grown' ps qs→Grown' (ps++qs) rs→Grown' ps (qs++rs):=by
 induction qs with
 |nil=>intro ps _ h;simpa using h
 |cons q qs ih =>
  intro ps h1 h2;exact⟨h1.1,ih h1.2 (by simpa using h2)⟩
theorem zcA{ns:vJ}{s:List UInt8}{m:Mn}(h:lk ns s=some m):(s,m) ∈ ns:=by
 unfold lk at h;cases hf:ns.find? (λx=>x.1==s)with
 |none=>rw[hf]at h;cases h
 |some x =>
  rw[hf]at h;simp only[Option.map_some,Option.some.injEq]at h;have h1:=List.mem_of_find?_eq_some hf;have h2:=List.find?_some hf;simp only[beq_iff_eq]at h2;rw[←h2,←h];exact h1
theorem Qf{ns:vJ}{n:Nd}{ws:List (List UInt8)}{m:Mn}(h:jk ns n ws= .ok m):(n.s,m) ∈ ns∧m.word ∈ ws:=by
 unfold jk at h;cases hl:lk ns n.s with
 |none=>rw[hl]at h;cases h
 |some m' =>
  rw[hl]at h;simp only at h
  split at h
  ·rename_i hw
   cases h;refine⟨zcA hl,?_⟩;simp only[List.any_eq_true,beq_iff_eq]at hw;obtain⟨y,hy,e⟩:=hw;rw[e];exact hy
  ·cases h
theorem Q7{ns:vJ}{ps:List Pt}(hn:yH ns ps){n:Nd}{m:Mn}(h:jk ns n [zn,zB]= .ok m):xB ps m.node:=by
 obtain⟨h1,h2⟩:=Qf h;refine(hn _ h1).1 ?_
 simpa using h2
theorem YT{ns:vJ}{ps:List Pt}(hn:yH ns ps){n:Nd}{m:Mn}{w:List UInt8}(hw:w=zM∨w=zN)(h:jk ns n [w]= .ok m):m.bytes.length=32:=by
 obtain⟨h1,h2⟩:=Qf h;refine(hn _ h1).2 ?_;have :m.word=w:=by simpa using h2
 rw[this];exact hw
theorem Y4{x:Nat}(h:¬x=0):1≤x:=by omega
theorem zbA(n:Nat):dI n≤8192:=(Qg _ _).1
theorem zbG(n:Nat):dV n≤2048:=(Qg _ _).1
structure Qq (n:Nd) (K:Nat):Prop where
 pos:1≤K
 lin:n.op=qX→K=1∧0≤(zH n.l 1).n∧0≤(zH n.l 2).n
 one:(n.op≠qQ∧n.op≠je∧n.op≠qv)→K=1
 snap:n.op=qv→K=2
theorem zcf(f:Nat→Nat)(l:List Nat)(k:Nat)(h:k ∈ l):f k≤(l.map f).sum:=by
 induction l with
 |nil=>cases h
 |cons a l ih =>
  simp only[List.map_cons,List.sum_cons];rcases List.mem_cons.1 h with rfl|h'
  ·omega
  ·have:=ih h'
   omega
theorem Ym{l:List Nat}{k:Nat}(h:k<l.length):l.getD k 0 ∈ l:=by
 rw[List.getD_eq_getElem?_getD,List.getElem?_eq_getElem h];exact List.getElem_mem h
theorem Fh{ns:vJ}{ps:List Pt}{n:Nd}{ks:List Nat}{p:Pt}(hn:yH ns ps)(hk:∀k ∈ ks,xB ps k)(hs:Qq n ks.length)(h:jD ns ps n ks= .ok p):yZ ps p∧p.kids=ks:=by
 have h0:ks≠ []:=by intro e;have:=hs.pos;rw[e]at this;simp at this
 have k0:xB ps (ks.getD 0 0):=hk _ (Ym (by have:=hs.pos;omega));unfold jD at h;by_cases e1:n.op=qX
 ·rw[if_pos e1]at h
  obtain⟨hl1,hl2,hl3⟩:=hs.lin e1
  split at h
  ·rename_i hc
   cases h;refine⟨⟨hk,h0,(by show 1≤Int.toNat _;omega),(by show Int.toNat _≤8192;have:=k0.2.2;omega),⟨by simp,by simp⟩,λ_=>?_,(by intro e;cases e),(by intro e;cases e),(by intro e;cases e),(by intro e;cases e),λ_=>hl1⟩,rfl⟩;show(zH n.l 1).n.toNat+(zH n.l 2).n.toNat≤sz ps (ks.getD 0 0);omega
  ·cases h
 ·rw[if_neg e1]at h
  by_cases e2:n.op=qQ∨n.op=je
  ·rw[if_pos e2]at h
   unfold xZ at h
   split at h
   ·cases h
   ·split at h
    ·split at h
     ·rename_i hc
      cases h;refine⟨⟨hk,h0,?_,hc,⟨by simp,by simp⟩,(by intro e;cases e),λ_=>rfl,(by intro e;cases e),(by intro e;cases e),(by intro e;cases e),(by rintro(e|e|e|e)<;>cases e)⟩,rfl⟩;have:=zcf (sz ps) ks _ (Ym (k:=0) (by have:=hs.pos;omega));have:=k0.2.1;show 1≤(ks.map (sz ps)).sum;omega
     ·cases h
    ·split at h
     ·rename_i hc
      cases h;refine⟨⟨hk,h0,k0.2.1,k0.2.2,⟨by simp,by simp⟩,(by intro e;cases e),(by intro e;cases e),λ_ k hk'=>?_,(by intro e;cases e),(by intro e;cases e),(by rintro(e|e|e|e)<;>cases e)⟩,rfl⟩;have:=List.all_eq_true.1 hc k hk'
      simpa using this
     ·cases h
  ·rw[if_neg e2]at h
   by_cases e3:n.op=qv
   ·rw[if_pos e3]at h
    split at h
    ·cases h
    ·split at h
     ·cases h
     ·cases h
      exact⟨⟨hk,h0,k0.2.1,k0.2.2,⟨by simp,by simp⟩,(by intro e;cases e),(by intro e;cases e),(by intro e;cases e),λ_=>⟨hs.snap e3,rfl⟩,(by intro e;cases e),(by rintro(e|e|e|e)<;>cases e)⟩,rfl⟩
   ·rw[if_neg e3]at h
    have h1:ks.length=1:=hs.one ⟨λe=>e2 (.inl e),λe=>e2 (.inr e),e3⟩;unfold jE at h
    split at h
    ·split at h
     ·cases h
     ·split at h
      ·cases h
      ·cases h
       exact⟨⟨hk,h0,k0.2.1,k0.2.2,⟨by simp,by simp⟩,(by intro e;cases e),(by intro e;cases e),(by intro e;cases e),(by intro e;cases e),λ_=>rfl,λ_=>h1⟩,rfl⟩
    ·split at h
     ·split at h
      ·cases h
      ·split at h
       ·cases h
       ·rename_i hd
        have hD:=zbA (sz ps (ks.getD 0 0));generalize dI (sz ps (ks.getD 0 0))=D at h hd hD;cases h;exact⟨⟨hk,h0,Y4 hd,hD,⟨by simp,by simp⟩,(by intro e;cases e),(by intro e;cases e),(by intro e;cases e),(by intro e;cases e),(by intro e;cases e),λ_=>h1⟩,rfl⟩
     ·split at h
      ·cases h
      ·split at h
       ·cases h
       ·rename_i hd
        have hD:=zbG (sz ps (ks.getD 0 0));generalize dV (sz ps (ks.getD 0 0))=D at h hd hD;cases h;exact⟨⟨hk,h0,Y4 hd,Nat.le_trans hD (by decide),⟨by simp,by simp⟩,(by intro e;cases e),(by intro e;cases e),(by intro e;cases e),(by intro e;cases e),(by intro e;cases e),λ_=>h1⟩,rfl⟩
theorem FH{ns:vJ}{ps:List Pt}{n:Nd}{ks:List Nat}{p:Pt}(hs:Qq n ks.length)(h:jD ns ps n ks= .ok p):ks.length≤4:=by
 by_cases h1:n.op=qQ∨n.op=je
 ·unfold jD at h
  rw[if_neg (by rcases h1 with e|e<;>rw[e]<;>decide),if_pos h1]at h;unfold xZ at h;by_cases q:2≤ks.length∧ks.length≤4
  ·exact q.2
  ·rw[if_pos q]at h
   cases h
 ·by_cases h2:n.op=qv
  ·rw[hs.snap h2];decide
  ·rw[hs.one ⟨λe=>h1 (.inl e),λe=>h1 (.inr e),h2⟩];decide
theorem UP{ns:vJ}{ps:List Pt}{n:Nd}{ks:List Nat}{p:Pt}(hs:Qq n ks.length)(k0:xB ps (ks.getD 0 0))(h:jD ns ps n ks= .ok p):p.first≤8192:=by
 unfold jD at h;by_cases e1:n.op=qX
 ·rw[if_pos e1]at h
  obtain⟨hl1,hl2,hl3⟩:=hs.lin e1
  split at h
  ·rename_i hc
   cases h;show Int.toNat _≤8192;have:=k0.2.2;omega
  ·cases h
 ·rw[if_neg e1]at h
  unfold xZ jE at h
  repeat' split at h
  all_goals first
   |cases h;done
   |(cases h;exact Nat.zero_le _)
theorem xD{ns:vJ}{ps:List Pt}{n:Nd}{ks:List Nat}{p:Pt}(hn:yH ns ps)(hk:∀k ∈ ks,xB ps k)(hs:Qq n ks.length)(h:jD ns ps n ks= .ok p):zaV ps p∧p.kids=ks:=by
 obtain⟨h1,h2⟩:=Fh hn hk hs h;exact⟨⟨h1,by rw[h2];exact FH hs h,UP hs (hk _ (Ym (by have:=hs.pos;omega))) h⟩,h2⟩
theorem Yj{f:List Pt→Nd→Except Er (Nat×List Pt)}(l:List Nd):∀ {ps:List Pt} {ks:List Nat} {p':List Pt},(∀qs x,x ∈ l→∀k p1,f (ps++qs) x= .ok (k,p1)→∃rs,p1=ps++qs++rs∧xB p1 k∧Grown' (ps++qs) rs)→jz f ps l= .ok (ks,p')→∃rs,p'=ps++rs∧(∀k ∈ ks,xB p' k)∧Grown' ps rs∧ks.length=l.length:=by
 induction l with
 |nil =>
  intro ps ks p' _ h;cases h;exact⟨[],by simp,(λk hk=>by cases hk),trivial,rfl⟩
 |cons x l ih =>
  intro ps ks p' hf h;unfold jz at h;cases h1:f ps x with
  |error e=>rw[h1]at h;cases h
  |ok r =>
   obtain⟨k,p1⟩:=r;rw[h1]at h;simp only at h;cases h2:jz f p1 l with
   |error e=>rw[h2]at h;cases h
   |ok r2 =>
    obtain⟨ks2,p2⟩:=r2;rw[h2]at h;cases h;obtain⟨rs,e1,hk1,hg1⟩:=hf [] x List.mem_cons_self k p1 (by simpa using h1);simp only[List.append_nil]at e1 hg1;subst e1
    obtain⟨rs2,e2,hk2,hg2,hl⟩:=ih (ps:=ps++rs) (λqs y hy k p1 hr=>by
     have:=hf (rs++qs) y (List.mem_cons_of_mem _ hy) k p1 (by simpa using hr)
     simpa using this) h2
    subst e2;refine⟨rs++rs2,by simp,λj hj=>?_,hg1.app (by simpa using hg2),by simp[hl]⟩;rcases List.mem_cons.1 hj with rfl|hj'
    ·exact hk1.more rs2
    ·exact hk2 j hj'
inductive Ub:Nat→Nd→Prop where
 |use (d:Nat) (n:Nd):n.op=vK→Ub (d+1) n
 |mk (d:Nat) (n:Nd):n.op≠vK→Qq n (jR n).length→(∀x ∈ jR n,Ub d x)→Ub (d+1) n
theorem Qi{ns:vJ}(d:Nat):∀ {ps:List Pt} {n:Nd} {k:Nat} {p':List Pt},yH ns ps→Ub d n→jb ns d ps n= .ok (k,p')→∃rs,p'=ps++rs∧xB p' k∧Grown' ps rs:=by
 induction d with
 |zero=>intro ps n k p' _ _ h;cases h
 |succ d ih =>
  intro ps n k p' hn hx h;unfold jb at h;cases hx with
  |use _ _ e =>
   rw[if_pos e]at h;cases hk:jk ns n [zn,zB]with
   |error e=>rw[hk]at h;cases h
   |ok m =>
    rw[hk]at h;cases h;exact⟨[],by simp,Q7 hn hk,trivial⟩
  |mk _ _ e hs hl =>
   rw[if_neg e]at h;cases hc:jz (jb ns d) ps (jR n)with
   |error e=>rw[hc]at h;cases h
   |ok r =>
    obtain⟨ks,p1⟩:=r;rw[hc]at h;simp only at h
    obtain⟨rs,e1,hk1,hg1,hlen⟩:=Yj (jR n) (λqs x hx k p1 hr=>by
     obtain⟨rs,e,h1,h2⟩:=ih (hn.more qs) (hl x hx) hr
     exact⟨rs,e,h1,h2⟩) hc
    subst e1
    split at h
    ·cases h
    ·cases hp:jD ns (ps++rs) n ks with
     |error e=>rw[hp]at h;cases h
     |ok p =>
      rw[hp]at h;cases h;obtain⟨hp1,hp2⟩:=xD (hn.more rs) hk1 (by rw[hlen];exact hs) hp;refine⟨rs++ [p],by simp,⟨by simp,?_⟩,hg1.app ⟨hp1,trivial⟩⟩;unfold sz;rw[UK];exact⟨hp1.lo,hp1.hi⟩
end
section
open Go.ChangeShapes Go.WideShapes Go.ChangeAt Go.RowKit
theorem qW{a b:Bool}(h:a=b):Ending.returned (.bool a)= .returned (.bool b):=by rw[h]
theorem Xv(c:UInt8)(k:Nat)(hk:k<256):(c==UInt8.ofNat k)=decide ((c.toNat:Int)=(k:Int)):=by
 rw[Bool.eq_iff_iff];simp only[beq_iff_eq,decide_eq_true_eq];constructor
 ·rintro rfl;simp;omega
 ·intro h
  apply UInt8.toNat_inj.1;simp;omega
theorem Vv(c:UInt8):j4 c=(decide ((c.toNat:Int)=9)||decide ((c.toNat:Int)=10)||decide ((c.toNat:Int)=13)||decide ((c.toNat:Int)=32)):=by
 have h1:=Xv c 9 (by decide);have h2:=Xv c 10 (by decide);have h3:=Xv c 13 (by decide);have h4:=Xv c 32 (by decide);unfold j4;exact congr (congrArg or (congr (congrArg or (congr (congrArg or h1) h2)) h3)) h4
theorem Yo(c:UInt8):jH c= !decide ((c.toNat:Int)=10):=congrArg not (Xv c 10 (by decide))
theorem V9(c:UInt8):zz c=(decide (48≤(c.toNat:Int))&&decide ((c.toNat:Int)≤57)):=by
 unfold zz;congr 1<;>exact decide_eq_decide.2 (by omega)
theorem Ui(c:UInt8):qx c=(decide (97≤(c.toNat:Int))&&decide ((c.toNat:Int)≤122)):=by
 unfold qx;congr 1<;>exact decide_eq_decide.2 (by omega)
theorem Yu(c:UInt8):xj c=(qx c||decide ((c.toNat:Int)=95)):=by
 unfold xj;exact congrArg (or (qx c)) (Xv c 95 (by decide))
theorem Uz(c:UInt8):zG c=(zz c||(decide (97≤(c.toNat:Int))&&decide ((c.toNat:Int)≤102))):=by
 unfold zG;congr 2<;>exact decide_eq_decide.2 (by omega)
def Z8(f:Nat)(p:UInt8→Bool):Prop:=∀(c:UInt8) (w:World),Calls Tryz.prog f #[.int .u8 (c.toNat:Int)] w λe w'=>e= .returned (.bool (p c))∧w'=w
theorem KW:Z8 111 j4:=by
 intro c w;go_enter Tryz.func111,Tryz.ntmps111
 go_wp2
 all_goals
  go_ret
  refine⟨qW ?_,rfl⟩;rw[Vv,Bool.eq_iff_iff];simp
  try omega
theorem Gx:Z8 113 jH:=by
 intro c w;go_enter Tryz.func113,Tryz.ntmps113
 go_wp2
 all_goals
  go_ret
  refine⟨qW ?_,rfl⟩;rw[Yo,Bool.eq_iff_iff];simp
  try omega
theorem qM:Z8 116 zz:=by
 intro c w;go_enter Tryz.func116,Tryz.ntmps116
 go_wp2
 all_goals
  go_ret
  refine⟨qW ?_,rfl⟩;rw[V9,Bool.eq_iff_iff];simp
  try omega
theorem qZ:Z8 114 qx:=by
 intro c w;go_enter Tryz.func114,Tryz.ntmps114
 go_wp2
 all_goals
  go_ret
  refine⟨qW ?_,rfl⟩;rw[Ui,Bool.eq_iff_iff];simp
  try omega
theorem yS:Z8 119 xj:=by
 intro c w;rw[Yu];have hs:=qZ c;cases e:qx c
 all_goals
  rw[e]at hs;clear e;go_enter Tryz.func119,Tryz.ntmps119
  go_wp2_with (go_at_call 114;refine(hs _).mono ?_;rintro e w' ⟨rfl,rfl⟩)
  all_goals
   go_ret
   refine⟨qW ?_,rfl⟩;rw[Bool.eq_iff_iff];simp
   try omega
theorem U0:Z8 136 qK:=by
 intro c w;unfold qK;have hs:=yS c;have hf:=qM c;generalize zz c=b at hf ⊢;cases e:xj c
 all_goals
  rw[e]at hs;clear e;go_enter Tryz.func136,Tryz.ntmps136
  go_wp2_with (first
   |(go_at_call 119;refine(hs _).mono ?_;rintro e w' ⟨rfl,rfl⟩)
   |(go_at_call 116;refine(hf _).mono ?_;rintro e w' ⟨rfl,rfl⟩))
  all_goals
   go_ret
   exact⟨qW (by simp),rfl⟩
theorem Fk:Z8 138 zG:=by
 intro c w;rw[Uz];have hf:=qM c;cases e:zz c
 all_goals
  rw[e]at hf;clear e;go_enter Tryz.func138,Tryz.ntmps138
  go_wp2_with (go_at_call 116;refine(hf _).mono ?_;rintro e w' ⟨rfl,rfl⟩)
  all_goals
   go_ret
   refine⟨qW ?_,rfl⟩;rw[Bool.eq_iff_iff];simp
   try omega
abbrev pt(p:Nat):Value:= .pointer (some ⟨p,0,none⟩)
def bs(l:List UInt8):ByteArray:=⟨l.toArray⟩
theorem zJ(l:List UInt8):(bs l).size=l.length:=by simp[bs,ByteArray.size]
theorem qa(l:List UInt8)(k:Nat)(h:k<(bs l).size):(bs l)[k]'h=l[k]'(by rw[zJ]at h;exact h):=by simp[bs,ByteArray.getElem_eq_getElem_data]
theorem jt(l:List UInt8)(a b:Nat):(bs l).extract a b=bs ((l.drop a).take (b-a)):=ByteArray.extract_mk l a b
structure jJ (w w':World) (P j:Nat):Prop where
 has:zm w' P 3 #[.int .i64 (j:Nat)]
 size:w'.heap.size=w.heap.size
 grown:w.grownBy w' (some P)
theorem jJ.other{w w':World}{P j g t:Nat}{cs:Array Value}(h:jJ w w' P j)(hg:zm w g t cs)(hne:g≠P):zm w' g t cs:=
 (h.grown.block g hg.lt (λe=>hne (by injection e))).trans hg
theorem jJ.below{w w':World}{P j B:Nat}(h:jJ w w' P j)(hB:B≤P)(hw:B≤w.heap.size):Below B w w':=
 ⟨h.grown.os,h.grown.tape,h.grown.output,h.grown.size,λk hk=>h.grown.block k (by omega) (λe=>by injection e;omega)⟩
theorem jJ.refl{w:World}{P j:Nat}(h:zm w P 3 #[.int .i64 (j:Nat)]):jJ w w P j:=⟨h,rfl,Ki _ _⟩
theorem jJ.drewN{w w':World}{P j:Nat}(h:jJ w w' P j)(m:Nat):jJ w (w'.drewN m) P j:=⟨h.has.drewN m,h.size,⟨h.grown.os,h.grown.tape,h.grown.output,h.grown.size,h.grown.block⟩⟩
theorem jJ.set{w w':World}{P j:Nat}(h:jJ w w' P j)(k:Nat):jJ w (w'.setCell ⟨P,0,none⟩ (.int .i64 (k:Nat))) P k:=by
 have hh:w'.heap[P]?=some (.cells #[.int .i64 (j:Nat)] 3 (0,0)):=h.has;refine⟨?_,?_,?_⟩
 ·show(w'.setCell ⟨P,0,none⟩ _).heap[P]?=_
  simp[World.setCell,Array.getElem?_modify,hh]
 ·simp[World.setCell,h.size]
 ·refine⟨h.grown.os,h.grown.tape,h.grown.output,by simp[World.setCell,h.grown.size],λg hg hne=>?_⟩
  rw[←h.grown.block g hg hne];exact Below.heap_setCell w' ⟨P,0,none⟩ _ g (λe=>hne (by rw[e]))
theorem jJ.trans{w w' w'':World}{P j k:Nat}(h:jJ w w' P j)(h':jJ w' w'' P k):jJ w w'' P k:=
 ⟨h'.has,h'.size.trans h.size,⟨h'.grown.os.trans h.grown.os,h'.grown.tape.trans h.grown.tape,h'.grown.output.trans h.grown.output,by rw[h'.size,h.size];exact Nat.le_refl _,λg hg hne=>(h'.grown.block g (by rw[h.size];exact hg) hne).trans (h.grown.block g hg hne)⟩⟩
def Zz(w:World)(P:Nat)(l:List UInt8)(i n:Nat)(e:Ending)(w':World):Prop:=e= .returned (.string (bs ((l.drop i).take n)))∧jJ w w' P (i+n)
theorem xY{p:UInt8→Bool}{l:List UInt8}{i k:Nat}(hk:k≤zS p (l.drop i))(h:i+k<l.length):k<zS p (l.drop i)↔p (l[i+k])=true:=by
 induction k generalizing i with
 |zero =>
  rw[List.drop_eq_getElem_cons (by omega),vj];simp only[Nat.add_zero]
  split<;>simp_all
 |succ k ih =>
  rw[List.drop_eq_getElem_cons (by omega),vj]at hk ⊢
  split at hk
  ·rename_i hp
   rw[if_pos hp];have:=ih (i:=i+1) (by omega) (by omega);have e:l[i+(k+1)]=l[i+1+k]:=by congr 1;omega
   rw[e];constructor
   ·intro hh;exact this.1 (by omega)
   ·intro hh;have:=this.2 hh;omega
  ·omega
theorem xS{p:UInt8→Bool}{l:List UInt8}{i k:Nat}(hk:k≤zS p (l.drop i))(h:¬i+k<l.length)(hi:i≤l.length):k=zS p (l.drop i):=by
 have:=v8 p (l.drop i);rw[List.length_drop]at this;omega
theorem yY{p:UInt8→Bool}{l:List UInt8}{i k:Nat}(hk:k≤zS p (l.drop i))(h:i+k<l.length)(hp:p (l[i+k])=false):k=zS p (l.drop i):=by
 have:=(xY hk h)
 rw[hp]at this;simp at this;omega
theorem yq{w wr:World}{P i k J n:Nat}{l:List UInt8}(hJ:J=i+k)(hn:k=n)(hm:jJ w wr P (i+k)):Zz w P l i n (.returned (.string ((bs l).extract i J))) wr:=by
 subst hJ hn;refine⟨?_,hm⟩;rw[jt,Nat.add_sub_cancel_left]
theorem xV{w wr:World}{P i k J:Nat}(hJ:J=i+k)(hm:jJ w wr P (i+k)):jJ w (wr.setCell ⟨P,0,none⟩ (.int .i64 ((J:Int)+1))) P (i+(k+1)):=by
 have:=hm.set (i+(k+1));rw[show((i+(k+1):Nat):Int)=(J:Int)+1 by omega]at this;exact this
def atP(wr:World)(P:Nat):Nat:=match wr.cell? ⟨P,0,none⟩with |some (.int _ z)=>z.toNat|_=>0
theorem Kg{w wr:World}{P j:Nat}(hm:jJ w wr P j):atP wr P=j:=by
 have :wr.cell? ⟨P,0,none⟩=some (.int .i64 (j:Nat)):=hm.has.cell 0;simp[atP,this]
theorem Zu{w wr:World}{P i k J:Nat}{l:List UInt8}(hJ:J=i+k)(hm:jJ w wr P (i+k))(h:J≤2000)(hlt:i+k<l.length)(hl:l.length≤2000):2000-atP (wr.setCell ⟨P,0,none⟩ (.int .i64 ((J:Int)+1))) P<2000-atP wr P:=by
 rw[Kg hm,Kg (xV hJ hm)];omega
theorem Yk{w:World}{P Q S i:Nat}(l:List UInt8)(hP:zm w P 3 #[.int .i64 (i:Nat)])(hQ:zm w Q 149 #[pt P])(hS:zm w S 9 #[.string (bs l)])(hQP:Q≠P)(hSP:S≠P)(hi:i≤l.length)(hl:l.length≤2000):
 Calls Tryz.prog 134 #[.func (.func 111) #[] #[],pt Q,pt S] w (Zz w P l i (zS j4 (l.drop i))):=by
 have hsz:=zJ l;have p0:w.cell? ⟨P,0,none⟩=some (.int .i64 (i:Nat)):=hP.cell 0;have q0:w.cell? ⟨Q,0,none⟩=some (pt P):=hQ.cell 0;have hi2:i≤2000:=by omega
 have HS:Hid ((bs l).size=l.length):=hsz;clear hsz;go_enter Tryz.func134,Tryz.ntmps134
 go_wp2
 go_loopw [] (λwr=>∃k:Nat,k≤zS j4 (l.drop i)∧i+k≤l.length∧jJ w wr P (i+k)) (λwr=>2000-atP wr P)
 case atStart=>exact⟨0,Nat.zero_le _,by omega,jJ.refl hP⟩
 case round =>
  obtain⟨k,hk,hkl,hm⟩:=hrel;have p1:wr.cell? ⟨P,0,none⟩=some (.int .i64 ((i+k:Nat):Int)):=hm.has.cell 0;have q1:wr.cell? ⟨Q,0,none⟩=some (pt P):=(hm.other hQ hQP).cell 0;have s1:wr.cell? ⟨S,0,none⟩=some (.string (bs l)):=(hm.other hS hSP).cell 0;have f1:wr.frozen? ⟨P,0,none⟩=false:=hm.has.free 0
  obtain⟨J,hJ⟩:∃J,J=i+k:=⟨_,rfl⟩
  rw[←hJ]at p1;have HJ:Hid (J=i+k):=hJ;clear hJ p0 q0;have hJ2:J≤2000:=by have:=HJ.out;omega
  by_cases hlt:i+k<l.length
  ·have h1:J<(bs l).size:=by rw[HS.out,HJ.out];exact hlt
   have h2:((J:Nat):Int)<((bs l).size:Int):=by omega
   have hget:(bs l)[J]'h1=l[i+k]:=by rw[qa];simp only[HJ.out]
   have ht:=λW=>KW ((bs l)[J]'h1) W
   cases hc:j4 (l[i+k])
   ·have hb:j4 ((bs l)[J]'h1)=false:=by rw[hget];exact hc
    rw[hb]at ht;have hn:=yY hk hlt hc;have HN:Hid (k=zS j4 (l.drop i)):=hn;clear hn hb hget hc;have b1:((i:Nat):Int)≤((J:Nat):Int):=by have:=HJ.out;omega
    have b2:((J:Nat):Int)≤((bs l).size:Int):=by omega
    go_wp2_with fail
    go_quiet ((go_at_call 111;exact Calls.quiet_of_same (ht _)))
    go_wp2
    go_quiet (fail)
    go_wp2
    go_ret
    exact yq HJ.out HN.out ((hm.drewN _).drewN _)
   ·have hb:j4 ((bs l)[J]'h1)=true:=by rw[hget];exact hc
    rw[hb]at ht;have hn:=(xY hk hlt).2 hc;clear hb hget hc
    go_wp2_with fail
    go_quiet ((go_at_call 111;exact Calls.quiet_of_same (ht _)))
    go_wp2
    go_roundw
    case rel=>exact⟨k+1,hn,by omega,xV HJ.out (hm.drewN _)⟩
    case measure=>exact Zu HJ.out (hm.drewN _) hJ2 hlt hl
  ·have h1:decide (J<(bs l).size)=false:=by rw[decide_eq_false_iff_not,HS.out,HJ.out];omega
   have h2:decide (((J:Nat):Int)<((bs l).size:Int))=false:=by rw[decide_eq_false_iff_not,HS.out,HJ.out];omega
   have hn:=xS hk hlt hi;have HN:Hid (k=zS j4 (l.drop i)):=hn;have b1:((i:Nat):Int)≤((J:Nat):Int):=by have:=HJ.out;omega
   have b2:((J:Nat):Int)≤((bs l).size:Int):=by rw[HS.out,HJ.out];omega
   clear hn
   go_wp2_with fail
   go_quiet (fail)
   go_wp2
   go_quiet (fail)
   go_wp2
   go_ret
   exact yq HJ.out HN.out ((hm.drewN _).drewN _)
theorem FW{w:World}{P Q S i:Nat}(l:List UInt8)(hP:zm w P 3 #[.int .i64 (i:Nat)])(hQ:zm w Q 149 #[pt P])(hS:zm w S 9 #[.string (bs l)])(hQP:Q≠P)(hSP:S≠P)(hi:i≤l.length)(hl:l.length≤2000):
 Calls Tryz.prog 134 #[.func (.func 113) #[] #[],pt Q,pt S] w (Zz w P l i (zS jH (l.drop i))):=by
 have hsz:=zJ l;have p0:w.cell? ⟨P,0,none⟩=some (.int .i64 (i:Nat)):=hP.cell 0;have q0:w.cell? ⟨Q,0,none⟩=some (pt P):=hQ.cell 0;have hi2:i≤2000:=by omega
 have HS:Hid ((bs l).size=l.length):=hsz;clear hsz;go_enter Tryz.func134,Tryz.ntmps134
 go_wp2
 go_loopw [] (λwr=>∃k:Nat,k≤zS jH (l.drop i)∧i+k≤l.length∧jJ w wr P (i+k)) (λwr=>2000-atP wr P)
 case atStart=>exact⟨0,Nat.zero_le _,by omega,jJ.refl hP⟩
 case round =>
  obtain⟨k,hk,hkl,hm⟩:=hrel;have p1:wr.cell? ⟨P,0,none⟩=some (.int .i64 ((i+k:Nat):Int)):=hm.has.cell 0;have q1:wr.cell? ⟨Q,0,none⟩=some (pt P):=(hm.other hQ hQP).cell 0;have s1:wr.cell? ⟨S,0,none⟩=some (.string (bs l)):=(hm.other hS hSP).cell 0;have f1:wr.frozen? ⟨P,0,none⟩=false:=hm.has.free 0
  obtain⟨J,hJ⟩:∃J,J=i+k:=⟨_,rfl⟩
  rw[←hJ]at p1;have HJ:Hid (J=i+k):=hJ;clear hJ p0 q0;have hJ2:J≤2000:=by have:=HJ.out;omega
  by_cases hlt:i+k<l.length
  ·have h1:J<(bs l).size:=by rw[HS.out,HJ.out];exact hlt
   have h2:((J:Nat):Int)<((bs l).size:Int):=by omega
   have hget:(bs l)[J]'h1=l[i+k]:=by rw[qa];simp only[HJ.out]
   have ht:=λW=>Gx ((bs l)[J]'h1) W
   cases hc:jH (l[i+k])
   ·have hb:jH ((bs l)[J]'h1)=false:=by rw[hget];exact hc
    rw[hb]at ht;have hn:=yY hk hlt hc;have HN:Hid (k=zS jH (l.drop i)):=hn;clear hn hb hget hc;have b1:((i:Nat):Int)≤((J:Nat):Int):=by have:=HJ.out;omega
    have b2:((J:Nat):Int)≤((bs l).size:Int):=by omega
    go_wp2_with fail
    go_quiet ((go_at_call 113;exact Calls.quiet_of_same (ht _)))
    go_wp2
    go_quiet (fail)
    go_wp2
    go_ret
    exact yq HJ.out HN.out ((hm.drewN _).drewN _)
   ·have hb:jH ((bs l)[J]'h1)=true:=by rw[hget];exact hc
    rw[hb]at ht;have hn:=(xY hk hlt).2 hc;clear hb hget hc
    go_wp2_with fail
    go_quiet ((go_at_call 113;exact Calls.quiet_of_same (ht _)))
    go_wp2
    go_roundw
    case rel=>exact⟨k+1,hn,by omega,xV HJ.out (hm.drewN _)⟩
    case measure=>exact Zu HJ.out (hm.drewN _) hJ2 hlt hl
  ·have h1:decide (J<(bs l).size)=false:=by rw[decide_eq_false_iff_not,HS.out,HJ.out];omega
   have h2:decide (((J:Nat):Int)<((bs l).size:Int))=false:=by rw[decide_eq_false_iff_not,HS.out,HJ.out];omega
   have hn:=xS hk hlt hi;have HN:Hid (k=zS jH (l.drop i)):=hn;have b1:((i:Nat):Int)≤((J:Nat):Int):=by have:=HJ.out;omega
   have b2:((J:Nat):Int)≤((bs l).size:Int):=by rw[HS.out,HJ.out];omega
   clear hn
   go_wp2_with fail
   go_quiet (fail)
   go_wp2
   go_quiet (fail)
   go_wp2
   go_ret
   exact yq HJ.out HN.out ((hm.drewN _).drewN _)
end
section
def yk(x:List UInt8):Bool:=x.take 2== [47,47]
theorem Xa(x:List UInt8):jO false x=zS j4 x+jO false (x.drop (zS j4 x)):=by
 induction x with
 |nil=>rfl
 |cons c t ih =>
  rw[vj];by_cases h:j4 c=true
  ·rw[if_pos h,List.drop_succ_cons]
   simp only[jO,if_pos h];omega
  ·rw[if_neg h]
   simp
theorem dG(x:List UInt8):jO true x=zS jH x+jO false (x.drop (zS jH x)):=by
 induction x with
 |nil=>rfl
 |cons c t ih =>
  rw[vj];by_cases h:jH c=true
  ·have hc:(c==10)=false:=by simpa [jH]using h
   rw[if_pos h,List.drop_succ_cons];simp only[jO,hc];simp;omega
  ·have hc:(c==10)=true:=by simpa [jH]using h
   have hc':=eq_of_beq hc;subst hc';simp[jO,jH,j4]
theorem kH(p:UInt8→Bool)(x:List UInt8):zS p (x.drop (zS p x))=0:=by
 induction x with
 |nil=>rfl
 |cons c t ih =>
  rw[vj];by_cases h:p c=true
  ·rw[if_pos h,List.drop_succ_cons];exact ih
  ·rw[if_neg h,List.drop_zero,vj,if_neg h]
theorem zaF{x:List UInt8}(h:yk x=true):∃t,x=47::47::t:=by
 match x,h with
 | [],h=>cases h
 | [a],h=>simp[yk]at h
 |a::b::t,h=>simp[yk]at h;exact⟨t,by rw[h.1,h.2]⟩
theorem QV{x:List UInt8}(h:yk x=true):jO false x=zS jH x+jO false (x.drop (zS jH x))∧2≤zS jH x:=by
 obtain⟨t,rfl⟩:=zaF h;constructor
 ·rw[←dG]
  simp[jO,j4]
 ·rw[vj,vj]
  simp[jH]
theorem Ua{x:List UInt8}(h:zS j4 x=0)(hn:yk x=false):jO false x=0:=by
 match x,h,hn with
 | [],_,_=>rfl
 |c::t,h,hn =>
  have hb:j4 c=false:=by
   rw[vj]at h;cases e:j4 c
   ·rfl
   ·rw[e]at h;simp at h
  simp only[jO,hb]
  have :(c==47&&t.head?==some 47)=false:=by
   cases t with
   |nil=>simp
   |cons d u =>
    simp[yk]at hn;simp;exact hn
  simp[this]
end
section
open Go.ChangeShapes Go.WideShapes Go.ChangeAt Go.RowKit
theorem GZ{f:FuncId}{args:Array Value}{w:World}{R:Ending→World→Prop}(i:Nat)(v:Value)(h:args[i]?=some v)(k:Calls Tryz.prog f args w R):Calls Tryz.prog f args w R:=k
theorem hmf(fn:Fn)(first cap:Array Value)(w:World):(Instr.makeFunc fn first cap).run Tryz.prog w= .ok (.func fn first cap) w:=rfl
theorem jU(w:World)(s:ByteArray)(P:Nat):Calls Tryz.prog 110 #[.string s,pt P] w λe w'=>e= .returned (.func (.func 134) #[] #[pt (w.heap.size+1),pt w.heap.size])∧w'=(w.alloc (.cells #[.string s] 9)).alloc (.cells #[pt P] 149):=by
 have h0:=hmf;go_enter Tryz.func110,Tryz.ntmps110
 go_wp2
 go_ret
 exact⟨rfl,rfl⟩
theorem zp(x:List UInt8):(bs x).toList=x:=ByteArray.toList_mk x
theorem VR(x:List UInt8)(w:World)(hx:x.length≤2000):Calls Tryz.prog 135 #[.string (bs x),.string ⟨#[47,47]⟩] w λe w'=>e= .returned (.bool (yk x))∧w'=w:=by
 have hs:=zJ x;by_cases h2:2≤x.length
 ·have h3:(2:Int)≤((bs x).size:Int):=by omega
  have HS:Hid ((bs x).size=x.length):=hs;clear hs;go_enter Tryz.func135,Tryz.ntmps135
  go_wp2
  go_ret
  refine⟨qW ?_,rfl⟩;rw[jt,zp];rfl
 ·have h3:¬(2:Int)≤((bs x).size:Int):=by omega
  have HS:Hid ((bs x).size=x.length):=hs;clear hs;go_enter Tryz.func135,Tryz.ntmps135
  go_wp2
  go_ret
  refine⟨qW ?_,rfl⟩;unfold yk;rw[List.take_of_length_le (by omega)]
  cases e:(x== [47,47])
  ·rfl
  ·rw[eq_of_beq e]at h2;simp at h2
theorem kD(x:List UInt8)(w:World)(hx:x.length≤2000):Calls Tryz.prog 112 #[.string (bs x),.string ⟨#[47,47]⟩] w λe w'=>e= .returned (.bool (yk x))∧w'=w:=by
 go_enter Tryz.func112,Tryz.ntmps112
 go_wp2_with (go_at_call 135;refine(VR _ _ hx).mono ?_;rintro e w' ⟨rfl,rfl⟩)
 go_ret
 exact⟨rfl,rfl⟩
structure UV (w0 w:World) (P Q S j:Nat) (l:List UInt8):Prop where
 at_:zm w P 3 #[.int .i64 (j:Nat)]
 q:zm w Q 149 #[pt P]
 s:zm w S 9 #[.string (bs l)]
 qp:Q≠P
 sp:S≠P
 le:j≤l.length
 below:Below w0.heap.size w0 w
 old:w0.heap.size≤P
theorem UV.moved{w0 w w':World}{P Q S j k:Nat}{l:List UInt8}(h:UV w0 w P Q S j l)(hm:jJ w w' P k)(hk:k≤l.length):UV w0 w' P Q S k l:=
 ⟨hm.has,hm.other h.q h.qp,hm.other h.s h.sp,h.qp,h.sp,hk,h.below.trans (hm.below h.old (by have:=h.below.size;omega)),h.old⟩
theorem UV.atP{w0 w:World}{P Q S j:Nat}{l:List UInt8}(h:UV w0 w P Q S j l):atP w P=j:=Kg (jJ.refl h.at_)
theorem Zk{l:List UInt8}{p:UInt8→Bool}{j:Nat}(h:j≤l.length):j+zS p (l.drop j)≤l.length:=by
 have:=v8 p (l.drop j);rw[List.length_drop]at this;omega
theorem zaE(l:List UInt8)(j:Nat):(bs l).extract j (bs l).size=bs (l.drop j):=by
 rw[jt,zJ,List.take_of_length_le (by rw[List.length_drop];omega)]
def QU(w wr:World)(P Q S i j:Nat)(l:List UInt8):Prop:=UV w wr P Q S j l∧i≤j∧i+jO false (l.drop i)=j+jO false (l.drop j)∧zS j4 (l.drop j)=0
theorem QU.first{w W0 wr:World}{P Q S i:Nat}{l:List UInt8}(h:UV w W0 P Q S i l)(hm:jJ W0 wr P (i+zS j4 (l.drop i))):QU w wr P Q S i (i+zS j4 (l.drop i)) l:=by
 refine⟨h.moved hm (Zk h.le),by omega,?_,?_⟩
 ·have:=Xa (l.drop i)
  rw[List.drop_drop]at this;omega
 ·rw[←List.drop_drop]
  exact kH _ _
theorem QU.next{w wr w1 w2:World}{P Q S i j:Nat}{l:List UInt8}(h:QU w wr P Q S i j l)(hn:yk (l.drop j)=true)(hm:jJ wr w1 P (j+zS jH (l.drop j)))
 (hm2:jJ w1 w2 P (j+zS jH (l.drop j)+zS j4 (l.drop (j+zS jH (l.drop j))))):QU w w2 P Q S i (j+zS jH (l.drop j)+zS j4 (l.drop (j+zS jH (l.drop j)))) l:=by
 obtain⟨hC,h1,h2,h3⟩:=h;have hle:=Zk (p:=jH) hC.le;refine⟨(hC.moved hm hle).moved hm2 (Zk hle),by omega,?_,?_⟩
 ·have e1:=(QV hn).1
  have e2:=Xa (l.drop (j+zS jH (l.drop j)));rw[List.drop_drop]at e1 e2;omega
 ·rw[←List.drop_drop]
  exact kH _ _
theorem ki(w:World)(l:List UInt8)(i:Nat)(hi:i≤l.length)(hl:l.length≤2000):Calls Tryz.prog 100 #[.string (bs l),.int .i64 (i:Nat)] w λe w'=>e= .returned (.int .i64 ((i+jO false (l.drop i):Nat):Int))∧Below w.heap.size w w':=by
 have hsz:=zJ l;have HS:Hid ((bs l).size=l.length):=hsz;clear hsz
 have hC:UV w (((w.alloc (.cells #[.int .i64 (i:Nat)] 3)).alloc (.cells #[.string (bs l)] 9)).alloc (.cells #[pt w.heap.size] 149)) w.heap.size (w.heap.size+1+1) (w.heap.size+1) i l:=
  ⟨((zm.new _ _ _).alloc _).alloc _,zm.new_at (by simp),(zm.new_at (by simp)).alloc _,by omega,by omega,hi,(((Below.refl _ _).alloc (Nat.le_refl _) _).alloc (by simp) _).alloc (by simp;omega) _,Nat.le_refl _⟩
 have ht:=Yk l hC.at_ hC.q hC.s hC.qp hC.sp hC.le hl;go_enter Tryz.func100,Tryz.ntmps100
 go_wp2_with (first
  |(go_at_call 110;refine(jU _ _ _).mono ?_;rintro e w' ⟨rfl,rfl⟩)
  |(go_at_call 134;refine ht.mono ?_;rintro e w1 ⟨rfl,hm⟩))
 have hA:=QU.first hC hm;clear hm hC ht
 go_loopw [] (λwr=>∃j,QU w wr w.heap.size (w.heap.size+1+1) (w.heap.size+1) i j l) (λwr=>2000-atP wr w.heap.size)
 case atStart=>exact⟨_,hA⟩
 case round =>
  clear hA;obtain⟨j,hA⟩:=hrel;have hC:=hA.1;have p1:wr.cell? ⟨w.heap.size,0,none⟩=some (.int .i64 (j:Nat)):=hC.at_.cell 0;have hj2:j≤2000:=by have:=hC.le;omega
  have b2:((j:Nat):Int)≤((bs l).size:Int):=by rw[HS.out];have:=hC.le;omega
  have hp:=λW=>kD (l.drop j) W (by rw[List.length_drop];omega)
  rw[←zaE]at hp;cases hn:yk (l.drop j)
  ·rw[hn]at hp
   have hz:=Ua hA.2.2.2 hn;have HE:Hid (i+jO false (l.drop i)=j):=by have:=hA.2.2.1;rw[hz]at this;exact this
   have hB:=hC.below;clear hz hn hA hC
   go_wp2_with (go_at_call 112;refine(hp _).mono ?_;rintro e w' ⟨rfl,rfl⟩)
   go_ret
   exact⟨by rw[HE.out];rfl,hB⟩
  ·rw[hn]at hp
   have hn2:=(QV hn).2;have ht1:=FW l hC.at_ hC.q hC.s hC.qp hC.sp hC.le hl
   obtain⟨J,hJ⟩:∃J,J=j+zS jH (l.drop j):=⟨_,rfl⟩
   have HJ:Hid (J=j+zS jH (l.drop j)):=hJ;clear hJ;have HN:Hid (yk (l.drop j)=true):=hn;clear hn
   go_wp2_with (first
    |(go_at_call 112;refine(hp _).mono ?_;rintro e w' ⟨rfl,rfl⟩)
    |(go_at_call 134
      refine GZ 0 (.func (.func 113) #[] #[]) rfl ?_;refine ht1.mono ?_
      rintro e w1 ⟨rfl,hm1⟩)
    |(go_at_call 134
      refine GZ 0 (.func (.func 111) #[] #[]) rfl ?_;have hle:=Zk (p:=jH) hC.le;have hC1:=hC.moved hm1 hle;refine(Yk l hC1.at_ hC1.q hC1.s hC1.qp hC1.sp hC1.le hl).mono ?_
      rintro e w2 ⟨rfl,hm2⟩))
   go_roundw
   case rel=>exact⟨_,hA.next HN.out hm1 hm2⟩
   case measure =>
    rw[hC.atP,Kg hm2];have:=Zk (p:=j4) (Zk (p:=jH) hC.le);omega
theorem Ux(w:World)(x:List UInt8):∃W1 cap,(convert 9 63 (.string (bs x))).run Tryz.prog w= .ok (.slice (some ⟨w.heap.size,0,none⟩) (bs x).size cap) W1∧(∀j (hj:j<x.length),W1.cell? ⟨w.heap.size,j,none⟩=some (.int .u8 (x[j].toNat:Int)))∧Below w.heap.size w W1:=by
 refine⟨_,_,run_bytes_of_string w 9 63 5 (bs x) Tryz.underlying9 Tryz.underlying63 Tryz.underlying5,?_,?_⟩
 ·intro j hj
  have hh:=heap_alloc_new w.drew (.cells (bytesRow (bs x) (grownCap w (bs x).size 0 5)) 5 ((bytesRow (bs x) (grownCap w (bs x).size 0 5)).size,(bytesRow (bs x) (grownCap w (bs x).size 0 5)).size+1));refine(cell_of_row _ _ _ _ _ _ hh).trans ?_;unfold bytesRow;rw[Array.getElem?_append_left (by simp[bs];exact hj)];simp[bs,hj]
 ·exact((⟨rfl,rfl,rfl,Nat.le_refl _,λ_ _=>rfl⟩:Below w.heap.size w w.drew)).alloc (Nat.le_refl _) _
theorem Dd(x:List UInt8)(k:Nat)(h:k<x.length):val (x.take (k+1))=10*val (x.take k)+(x[k].toNat-48):=by
 rw[List.take_succ_eq_append_getElem h,Yh]
theorem zbs(x:List UInt8)(w:World)(h0:x≠ [])(h9:x.length≤9)(hf:∀c ∈ x,zz c=true):
 Calls Tryz.prog 148 #[.string (bs x)] w λe w'=>e= .returned (.tuple #[.int .i64 (val x:Nat),.nilIface])∧Below w.heap.size w w':=by
 have hsz:=zJ x;have hpos:0<x.length:=List.length_pos_iff.2 h0;obtain⟨W1,cap,hconv,hcell,hbel⟩:=Ux w x
 have hfig:∀j (hj:j<x.length),48≤((x[j].toNat:Nat):Int)∧((x[j].toNat:Nat):Int)≤57:=by
  intro j hj;have:=hf x[j] (List.getElem_mem hj);simp[zz]at this;omega
 have hx0:(0:Nat)<(bs x).size:=by omega
 have hg0:(bs x)[0]'hx0=x[0]:=qa x 0 hx0;have hf0:48≤((((bs x)[0]'hx0).toNat:Nat):Int)∧((((bs x)[0]'hx0).toNat:Nat):Int)≤57:=by rw[hg0];exact hfig 0 hpos
 have z1:(((((bs x)[0]'hx0).toNat:Nat):Int)==45)=false:=by simp;omega
 have z2:(((((bs x)[0]'hx0).toNat:Nat):Int)==43)=false:=by simp;omega
 have z5:¬((((bs x)[0]'hx0).toNat:Nat):Int)=45:=by omega
 have z3:(0:Int)<((bs x).size:Int):=by omega
 have z4:((bs x).size:Int)<19:=by omega
 have HS:Hid ((bs x).size=x.length):=hsz;clear hsz hg0 hf0;go_enter Tryz.func148,Tryz.ntmps148
 go_wp2
 go_loop [6,49] (λn i=>∃k:Nat,k≤x.length∧i= .int .i64 (k:Nat)∧n= .int .i64 (val (x.take k):Nat)) (λ_ i=>x.length-(intOf i).toNat)
 case atStart=>exact⟨0,Nat.zero_le _,rfl,rfl⟩
 case round =>
  obtain⟨k,hk,rfl,rfl⟩:=hrel
  have hvb:val (x.take k)<1000000000:=by
   have h1:=JF (x.take k) (λc hc=>hf c (List.mem_of_mem_take hc));have h2:10 ^ (x.take k).length≤10 ^ 9:=Nat.pow_le_pow_right (by decide) (by rw[List.length_take];omega);exact Nat.lt_of_lt_of_le h1 h2
  obtain⟨V,hV⟩:∃V,V=val (x.take k):=⟨_,rfl⟩
  rw[←hV]at hvb ⊢;by_cases hlt:k<x.length
  ·have hc:=hcell k hlt
   have hfk:=hfig k hlt;have hvt:=Dd x k hlt;rw[←hV]at hvt;have e1:((x[k].toNat-48:Nat):Int)=(x[k].toNat:Int)-48:=by omega
   have HV:Hid (((val (x.take (k+1)):Nat):Int)=10*(V:Int)+((x[k].toNat:Int)-48)):=by show((val (x.take (k+1)):Nat):Int)=_;rw[hvt];omega
   have hlt2:((k:Nat):Int)<((bs x).size:Int):=by rw[HS.out];omega
   clear hvt e1 hV;generalize ((x[k].toNat:Nat):Int)=z at hc hfk HV;obtain⟨g1,g2⟩:=hfk;clear hcell hfig hconv
   go_wp2
   go_round
   case rel=>exact⟨k+1,by omega,by go_num,by rw[HV.out];go_num⟩
   case measure=>simp[intOf];omega
  ·have hlt2:¬((k:Nat):Int)<((bs x).size:Int):=by rw[HS.out];omega
   have hfull:x.take k=x:=List.take_of_length_le (by omega);rw[hfull]at hV;have HV:Hid (V=val x):=hV;clear hfull hV hcell hfig hconv
   go_wp2
   go_ret2
   exact⟨by rw[HV.out];rfl,hbel⟩
theorem zcq(x:List UInt8)(w:World)(h0:x≠ [])(h9:x.length≤9)(hf:∀c ∈ x,zz c=true):
 Calls Tryz.prog 137 #[.string (bs x)] w λe w'=>e= .returned (.tuple #[.int .i64 (val x:Nat),.nilIface])∧Below w.heap.size w w':=by
 have ha:=zbs x w h0 h9 hf;go_enter Tryz.func137,Tryz.ntmps137
 go_wp2_with (go_at_call 148;refine ha.mono ?_;rintro e w' ⟨rfl,hb⟩)
 go_ret2
 exact⟨rfl,hb⟩
theorem Xo{w:World}{P Q S i:Nat}(l:List UInt8)(hP:zm w P 3 #[.int .i64 (i:Nat)])(hQ:zm w Q 149 #[pt P])(hS:zm w S 9 #[.string (bs l)])(hQP:Q≠P)(hSP:S≠P)(hi:i≤l.length)(hl:l.length≤2000):
 Calls Tryz.prog 134 #[.func (.func 136) #[] #[],pt Q,pt S] w (Zz w P l i (zS qK (l.drop i))):=by
 have hsz:=zJ l;have p0:w.cell? ⟨P,0,none⟩=some (.int .i64 (i:Nat)):=hP.cell 0;have q0:w.cell? ⟨Q,0,none⟩=some (pt P):=hQ.cell 0;have hi2:i≤2000:=by omega
 have HS:Hid ((bs l).size=l.length):=hsz;clear hsz;go_enter Tryz.func134,Tryz.ntmps134
 go_wp2
 go_loopw [] (λwr=>∃k:Nat,k≤zS qK (l.drop i)∧i+k≤l.length∧jJ w wr P (i+k)) (λwr=>2000-atP wr P)
 case atStart=>exact⟨0,Nat.zero_le _,by omega,jJ.refl hP⟩
 case round =>
  obtain⟨k,hk,hkl,hm⟩:=hrel;have p1:wr.cell? ⟨P,0,none⟩=some (.int .i64 ((i+k:Nat):Int)):=hm.has.cell 0;have q1:wr.cell? ⟨Q,0,none⟩=some (pt P):=(hm.other hQ hQP).cell 0;have s1:wr.cell? ⟨S,0,none⟩=some (.string (bs l)):=(hm.other hS hSP).cell 0;have f1:wr.frozen? ⟨P,0,none⟩=false:=hm.has.free 0
  obtain⟨J,hJ⟩:∃J,J=i+k:=⟨_,rfl⟩
  rw[←hJ]at p1;have HJ:Hid (J=i+k):=hJ;clear hJ p0 q0;have hJ2:J≤2000:=by have:=HJ.out;omega
  by_cases hlt:i+k<l.length
  ·have h1:J<(bs l).size:=by rw[HS.out,HJ.out];exact hlt
   have h2:((J:Nat):Int)<((bs l).size:Int):=by omega
   have hget:(bs l)[J]'h1=l[i+k]:=by rw[qa];simp only[HJ.out]
   have ht:=λW=>U0 ((bs l)[J]'h1) W
   cases hc:qK (l[i+k])
   ·have hb:qK ((bs l)[J]'h1)=false:=by rw[hget];exact hc
    rw[hb]at ht;have hn:=yY hk hlt hc;have HN:Hid (k=zS qK (l.drop i)):=hn;clear hn hb hget hc;have b1:((i:Nat):Int)≤((J:Nat):Int):=by have:=HJ.out;omega
    have b2:((J:Nat):Int)≤((bs l).size:Int):=by omega
    go_wp2_with fail
    go_quiet ((go_at_call 136;exact Calls.quiet_of_same (ht _)))
    go_wp2
    go_quiet (fail)
    go_wp2
    go_ret
    exact yq HJ.out HN.out ((hm.drewN _).drewN _)
   ·have hb:qK ((bs l)[J]'h1)=true:=by rw[hget];exact hc
    rw[hb]at ht;have hn:=(xY hk hlt).2 hc;clear hb hget hc
    go_wp2_with fail
    go_quiet ((go_at_call 136;exact Calls.quiet_of_same (ht _)))
    go_wp2
    go_roundw
    case rel=>exact⟨k+1,hn,by omega,xV HJ.out (hm.drewN _)⟩
    case measure=>exact Zu HJ.out (hm.drewN _) hJ2 hlt hl
  ·have h1:decide (J<(bs l).size)=false:=by rw[decide_eq_false_iff_not,HS.out,HJ.out];omega
   have h2:decide (((J:Nat):Int)<((bs l).size:Int))=false:=by rw[decide_eq_false_iff_not,HS.out,HJ.out];omega
   have hn:=xS hk hlt hi;have HN:Hid (k=zS qK (l.drop i)):=hn;have b1:((i:Nat):Int)≤((J:Nat):Int):=by have:=HJ.out;omega
   have b2:((J:Nat):Int)≤((bs l).size:Int):=by rw[HS.out,HJ.out];omega
   clear hn
   go_wp2_with fail
   go_quiet (fail)
   go_wp2
   go_quiet (fail)
   go_wp2
   go_ret
   exact yq HJ.out HN.out ((hm.drewN _).drewN _)
theorem J7{w:World}{P Q S i:Nat}(l:List UInt8)(hP:zm w P 3 #[.int .i64 (i:Nat)])(hQ:zm w Q 149 #[pt P])(hS:zm w S 9 #[.string (bs l)])(hQP:Q≠P)(hSP:S≠P)(hi:i≤l.length)(hl:l.length≤2000):
 Calls Tryz.prog 134 #[.func (.func 116) #[] #[],pt Q,pt S] w (Zz w P l i (zS zz (l.drop i))):=by
 have hsz:=zJ l;have p0:w.cell? ⟨P,0,none⟩=some (.int .i64 (i:Nat)):=hP.cell 0;have q0:w.cell? ⟨Q,0,none⟩=some (pt P):=hQ.cell 0;have hi2:i≤2000:=by omega
 have HS:Hid ((bs l).size=l.length):=hsz;clear hsz;go_enter Tryz.func134,Tryz.ntmps134
 go_wp2
 go_loopw [] (λwr=>∃k:Nat,k≤zS zz (l.drop i)∧i+k≤l.length∧jJ w wr P (i+k)) (λwr=>2000-atP wr P)
 case atStart=>exact⟨0,Nat.zero_le _,by omega,jJ.refl hP⟩
 case round =>
  obtain⟨k,hk,hkl,hm⟩:=hrel;have p1:wr.cell? ⟨P,0,none⟩=some (.int .i64 ((i+k:Nat):Int)):=hm.has.cell 0;have q1:wr.cell? ⟨Q,0,none⟩=some (pt P):=(hm.other hQ hQP).cell 0;have s1:wr.cell? ⟨S,0,none⟩=some (.string (bs l)):=(hm.other hS hSP).cell 0;have f1:wr.frozen? ⟨P,0,none⟩=false:=hm.has.free 0
  obtain⟨J,hJ⟩:∃J,J=i+k:=⟨_,rfl⟩
  rw[←hJ]at p1;have HJ:Hid (J=i+k):=hJ;clear hJ p0 q0;have hJ2:J≤2000:=by have:=HJ.out;omega
  by_cases hlt:i+k<l.length
  ·have h1:J<(bs l).size:=by rw[HS.out,HJ.out];exact hlt
   have h2:((J:Nat):Int)<((bs l).size:Int):=by omega
   have hget:(bs l)[J]'h1=l[i+k]:=by rw[qa];simp only[HJ.out]
   have ht:=λW=>qM ((bs l)[J]'h1) W
   cases hc:zz (l[i+k])
   ·have hb:zz ((bs l)[J]'h1)=false:=by rw[hget];exact hc
    rw[hb]at ht;have hn:=yY hk hlt hc;have HN:Hid (k=zS zz (l.drop i)):=hn;clear hn hb hget hc;have b1:((i:Nat):Int)≤((J:Nat):Int):=by have:=HJ.out;omega
    have b2:((J:Nat):Int)≤((bs l).size:Int):=by omega
    go_wp2_with fail
    go_quiet ((go_at_call 116;exact Calls.quiet_of_same (ht _)))
    go_wp2
    go_quiet (fail)
    go_wp2
    go_ret
    exact yq HJ.out HN.out ((hm.drewN _).drewN _)
   ·have hb:zz ((bs l)[J]'h1)=true:=by rw[hget];exact hc
    rw[hb]at ht;have hn:=(xY hk hlt).2 hc;clear hb hget hc
    go_wp2_with fail
    go_quiet ((go_at_call 116;exact Calls.quiet_of_same (ht _)))
    go_wp2
    go_roundw
    case rel=>exact⟨k+1,hn,by omega,xV HJ.out (hm.drewN _)⟩
    case measure=>exact Zu HJ.out (hm.drewN _) hJ2 hlt hl
  ·have h1:decide (J<(bs l).size)=false:=by rw[decide_eq_false_iff_not,HS.out,HJ.out];omega
   have h2:decide (((J:Nat):Int)<((bs l).size:Int))=false:=by rw[decide_eq_false_iff_not,HS.out,HJ.out];omega
   have hn:=xS hk hlt hi;have HN:Hid (k=zS zz (l.drop i)):=hn;have b1:((i:Nat):Int)≤((J:Nat):Int):=by have:=HJ.out;omega
   have b2:((J:Nat):Int)≤((bs l).size:Int):=by rw[HS.out,HJ.out];omega
   clear hn
   go_wp2_with fail
   go_quiet (fail)
   go_wp2
   go_quiet (fail)
   go_wp2
   go_ret
   exact yq HJ.out HN.out ((hm.drewN _).drewN _)
end
end Go.Proofs.YteaddcdpgcgggaaGreatDoor
