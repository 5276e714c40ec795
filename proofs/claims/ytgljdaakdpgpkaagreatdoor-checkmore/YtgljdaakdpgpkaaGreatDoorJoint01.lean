import Derived.Test.YtgljdaakdpgpkaaGreatDoorJoint00
import Derived.BigQuiet
import Derived.Deep.QuietTactic
import Derived.Lib.Strings
import Derived.Laws.IdiomStrings
import Derived.RegionTactic
namespace Go.Proofs.YtgljdaakdpgpkaaGreatDoor
set_option linter.unusedVariables false
set_option maxRecDepth 100000
set_option maxHeartbeats 40000000
section
open Go.ChangeShapes Go.WideShapes Go.ChangeAt Go.RowKit Go.Shelf
theorem KK{o:Oper}{a:Act}(x:Operand)(ho:o.op= .load 97 x)(p:Addr)(hx:a.eval x= .pointer (some p))(v:Value)(w:World)(h:w.cell? p=some v):(execOp a.eval o).run Tryz.prog w= .ok (.value v) w:=by
 unfold execOp;simp only[ho,hx];simp[go_sem,h]
theorem uH{o:Oper}{a:Act}(x y:Operand)(ho:o.op= .binOp .leq 3 x y 3)(p q:Int)(hx:a.eval x= .int .i64 p)(hy:a.eval y= .int .i64 q)(c:Bool)(hc:decide (p≤q)=c)(w:World):
 (execOp a.eval o).run Tryz.prog w= .ok (.value (.bool c)) w:=by
 unfold execOp;simp only[ho,hx,hy];subst hc;go_simp
theorem uX(g bf bn:Nat)(rest:Nat→Nat)(d n:Nat)(W:World)(hn:n≤8192)(hd:d≤8192)(hr:rest d≤100000)
 (eg:∀args w,(callFunc g args).run Tryz.prog w= .ok (.enter g args) w)
 (hx:zi W bf 97 #[.func (.func g) #[] #[]]) (hy:zi W bn 3 #[.int .i64 (n:Nat)])
 (hf:∀W:World,Calls Tryz.prog g #[.int .i64 (d:Nat)] W λe W'=>e= .returned (.int .i64 (rest d:Nat))∧Below W.heap.size W W'):
 Calls Tryz.prog 151 #[.int .i64 (d:Nat),.pointer (some ⟨bf,0,none⟩),.pointer (some ⟨bn,0,none⟩)] W λe W'=>e= .returned (.bool (Ju rest n d))∧Below W.heap.size W W':=by
 have HF:decide (((d+rest d:Nat):Int)≤(n:Int))=Ju rest n d:=by unfold Ju;exact decide_eq_decide.2 (by omega)
 generalize rest d=q at hf hr HF;generalize Ju rest n d=bo at HF ⊢;have HH:Hid (decide (((d+q:Nat):Int)≤(n:Int))=bo):=HF;clear HF;go_enter Tryz.func151,Tryz.ntmps151
 go_wp2
 refine wp_region_held_drew (S:=λw'=>zi w' bf 97 #[.func (.func g) #[] #[]]∧zi w' bn 3 #[.int .i64 (n:Nat)]∧Below W.heap.size W w') (by kernel_rfl) ⟨hx,hy,(Below.refl _ W).drew⟩ (λhHeld=>?_);refine zC 0 (some 5) (.int .i64 (d:Nat)) hHeld ?_;simp only[Act.put,ze,zg,zf];refine zP 1 (some 6) (.func (.func g) #[] #[]) rfl rfl (λwz hz=>KK _ rfl ⟨bf,0,none⟩ rfl _ wz (by rw[hz.1.cell 0];rfl)) hHeld ?_;simp only[Act.put,ze,zg,zf];refine zC 2 (some 7) (.int .i64 (d:Nat)) hHeld ?_;simp only[Act.put,ze,zg,zf];refine zP 5 (some 10) (.int .i64 (n:Nat)) rfl rfl (λwz hz=>xd _ rfl ⟨bn,0,none⟩ rfl _ wz (by rw[hz.2.1.cell 0];rfl)) hHeld ?_;simp only[Act.put,ze,zg,zf];refine Zj 3 (some 8) g #[.int .i64 (d:Nat)] (by kernel_rfl) rfl rfl (by rfl) (by unfold execOp;simp[Act.eval,go_sem,eg]) (hf _) ?_;rintro e w1 ⟨rfl,hb1⟩;have hb1':Below W.heap.size W w1:=hHeld.2.2.trans hb1
 have hH1:zi w1 bf 97 #[.func (.func g) #[] #[]]∧zi w1 bn 3 #[.int .i64 (n:Nat)]∧Below W.heap.size W w1:=⟨hx.below hb1' hx.lt,hy.below hb1' hy.lt,hb1'⟩
 refine⟨_,rfl,hH1,?_⟩;simp only[Act.put,ze,zg,zf];refine zP 4 (some 9) (.int .i64 ((d+q:Nat):Int)) rfl rfl (λwz hz=>QJ _ _ rfl d q rfl rfl (by omega) (by omega) wz) hH1 ?_;simp only[Act.put,ze,zg,zf];refine zP 6 (some 11) (.bool bo) rfl rfl (λwz hz=>uH _ _ rfl _ _ rfl rfl bo HH.out wz) hH1 ?_;simp only[Act.put,ze,zg,zf];refine zP 7 (some 4) (.bool bo) rfl rfl (λ_ _=>rfl) hH1 ?_;simp only[Act.put,ze,zg,zf];refine wpAnyH_done (by kernel_rfl) ?_ _
 go_wp2
 go_ret
 exact⟨rfl,hb1'⟩
theorem K9(g:Nat)(rest:Nat→Nat)(n L:Nat)(w:World)(hn:n≤8192)(hL:L≤8192)(hr:∀d,d≤L→rest d≤100000)(hm:∀a b,a≤b→b≤L→rest a≤rest b)
 (eg:∀args w,(callFunc g args).run Tryz.prog w= .ok (.enter g args) w)
 (hf:∀(d:Nat) (W:World),d≤L→Calls Tryz.prog g #[.int .i64 (d:Nat)] W λe W'=>e= .returned (.int .i64 (rest d:Nat))∧Below W.heap.size W W'):
 Calls Tryz.prog 146 #[.int .i64 (n:Nat),.int .i64 (L:Nat),.func (.func g) #[] #[]] w λe w'=>∃r:Nat,e= .returned (.tuple #[.int .i64 (r:Nat),.int .i64 (rest r:Nat)])∧vB L (Ju rest n) r∧Below w.heap.size w w':=by
 obtain⟨W0,hW0⟩:∃W0,W0=(w.alloc (.cells #[.int .i64 (n:Nat)] 3)).alloc (.cells #[.func (.func g) #[] #[]] 97):=⟨_,rfl⟩
 have hs0:W0.heap.size=w.heap.size+2:=by rw[hW0];simp
 have hy0:zi W0 w.heap.size 3 #[.int .i64 (n:Nat)]:=by rw[hW0];exact(zi.new _ _ _).alloc _
 have hx0:zi W0 (w.heap.size+1) 97 #[.func (.func g) #[] #[]]:=by rw[hW0];exact zi.new_at (by simp)
 have hB0:Below w.heap.size w W0:=by rw[hW0];exact((Below.refl _ w).alloc (Nat.le_refl _) _).alloc (by simp) _
 have hG:=QS 151 #[.pointer (some ⟨w.heap.size+1,0,none⟩),.pointer (some ⟨w.heap.size,0,none⟩)] L (Ju rest n) W0 (enters_of Tryz.func151 (by kernel_rfl) rfl) (by omega)
  (λd W hd hb=>uX g (w.heap.size+1) w.heap.size rest d n W hn (by omega) (hr d hd) eg (hx0.below hb (by omega)) (hy0.below hb (by omega)) (λW=>hf d W hd))
  (λa b hab hb h=>GZ hm a b hab hb h)
 have HG:Hid (Calls Tryz.prog 129 #[.int .i64 (L:Nat),.func (.func 151) #[] #[.pointer (some ⟨w.heap.size+1,0,none⟩),.pointer (some ⟨w.heap.size,0,none⟩)]] W0 λe w'=>∃r:Nat,e= .returned (.int .i64 (r:Nat))∧vB L (Ju rest n) r∧Below W0.heap.size W0 w'):=hG;have hy0c:=hy0.cell 0;simp only[List.getElem?_toArray,List.getElem?_cons_zero]at hy0c;have HF:Hid (∀(d:Nat) (W:World),d≤L→Calls Tryz.prog g #[.int .i64 (d:Nat)] W λe W'=>e= .returned (.int .i64 (rest d:Nat))∧Below W.heap.size W W'):=hf;clear hG hf hr hm;go_enter Tryz.func146,Tryz.ntmps146
 go_wp2_with (first
  |((go_at_call 127)
    refine(vg _ _ _ _ ⟨by omega,by omega⟩).mono ?_;(rintro e w1 ⟨rfl,rfl⟩))
  |((go_at_call 129)
    rw[←hW0];refine HG.out.mono ?_;rintro e w1 ⟨r,rfl,h1,h4⟩;(have hxc:=(hx0.below h4 hx0.lt).cell 0))
  |((go_at_fn g)
    refine(HF.out r _ h1.1).mono ?_;(rintro e w2 ⟨rfl,h5⟩)))
 go_ret2
 exact⟨r,rfl,h1,(hB0.trans (h4.mono (by omega))).trans (h5.mono (by have:=h4.size;omega))⟩
theorem Yn(n:Nat)(w:World)(h:n≤8192):Calls Tryz.prog 133 #[.int .i64 (n:Nat)] w λe w'=>∃r:Nat,e= .returned (.tuple #[.int .i64 (r:Nat),.int .i64 (tg r:Nat)])∧vB 8192 (Ju tg n) r∧Below w.heap.size w w':=by
 have hs:=K9 147 tg n 8192 w h (by omega) (λd hd=>by unfold tg;omega) (λa b hab _=>Fk a b hab) (enters_of Tryz.func147 (by kernel_rfl) rfl)
  (λd W hd=>(fM d W hd).mono (by rintro e W' ⟨rfl,rfl⟩;exact⟨rfl,Below.refl _ _⟩))
 generalize ((n:Nat):Int)=N at hs ⊢;clear h;go_enter Tryz.func133,Tryz.ntmps133
 go_wp2_with (first
  |((go_at_call 146)
    refine hs.mono ?_;(rintro e w1 ⟨r,rfl,h1,hb⟩)))
 go_ret2
 exact⟨r,rfl,h1,hb⟩
theorem gr(n:Nat)(w:World)(h:n≤8192):Calls Tryz.prog 134 #[.int .i64 (n:Nat)] w λe w'=>∃r:Nat,e= .returned (.tuple #[.int .i64 (r:Nat),.int .i64 (hs r:Nat)])∧vB 2048 (Ju hs n) r∧Below w.heap.size w w':=by
 have hs:=K9 148 hs n 2048 w h (by omega) (λd hd=>by have:=FX d;omega) (λa b hab hb=>Fd hab hb) (enters_of Tryz.func148 (by kernel_rfl) rfl)
  (λd W hd=>uz d W (by omega))
 generalize ((n:Nat):Int)=N at hs ⊢;clear h;go_enter Tryz.func134,Tryz.ntmps134
 go_wp2_with (first
  |((go_at_call 146)
    refine hs.mono ?_;(rintro e w1 ⟨r,rfl,h1,hb⟩)))
 go_ret2
 exact⟨r,rfl,h1,hb⟩
theorem yi{f:FuncId}{args:Array Value}{w:World}{R:Ending→World→Prop}(i:Nat)(v:Value)(h:args[i]?=some v)(k:Calls Tryz.prog f args w R):Calls Tryz.prog f args w R:=k
theorem GM(s table chunk n b1 b2 b3:Nat)(W:World)(h1:s≤8192)(h2:table≤8192)(h3:chunk≤16)(c1:W.cell? ⟨b1,0,none⟩=some (.int .i64 (table:Nat)))(c2:W.cell? ⟨b2,0,none⟩=some (.int .i64 (chunk:Nat)))(c3:W.cell? ⟨b3,0,none⟩=some (.int .i64 (n:Nat))):
 Calls Tryz.prog 130 #[.int .i64 (s:Nat),.pointer (some ⟨b1,0,none⟩),.pointer (some ⟨b2,0,none⟩),.pointer (some ⟨b3,0,none⟩)] W λe W'=>e= .returned (.bool (Z8 table chunk n s))∧Below W.heap.size W W':=by
 have hm:s*chunk≤8192*16:=Nat.mul_le_mul h1 h3
 have HF:Hid (decide ((table:Int)+(s:Int)*(chunk:Int)≤(n:Int))=Z8 table chunk n s):=(by unfold Z8;exact decide_eq_decide.2 (by rw[←Int.natCast_mul];omega):decide ((table:Int)+(s:Int)*(chunk:Int)≤(n:Int))=Z8 table chunk n s)
 have hm2:(s:Int)*(chunk:Int)≤131072:=by rw[←Int.natCast_mul];omega
 have hm3:0≤(s:Int)*(chunk:Int):=by rw[←Int.natCast_mul];omega
 generalize Z8 table chunk n s=bo at HF ⊢;have ht1:0≤(table:Int):=by omega
 have ht2:(table:Int)≤8192:=by omega
 generalize (table:Int)=T at *;generalize (s:Int)=S at *;generalize (chunk:Int)=C at *;generalize (n:Int)=N at *;clear h1 h2 h3 hm;go_enter Tryz.func130,Tryz.ntmps130
 go_wp2
 go_ret
 rw[HF.out];exact⟨rfl,Below.refl _ _⟩
def Dy(table s:Nat):Nat:=if s=0 then 0 else table
def jU(origin chunk:Nat):Nat:=(origin+chunk-1) / chunk
def yo(origin chunk:Nat):Nat:=(jU origin chunk+15) / 16
theorem Uw{origin chunk:Nat}(h1:1≤origin)(h2:origin≤8192)(h3:1≤chunk):1≤jU origin chunk∧jU origin chunk≤8192:=by
 unfold jU;constructor
 ·exact(Nat.le_div_iff_mul_le (by omega)).2 (by omega)
 ·refine Nat.div_le_of_le_mul ?_
  have:=Nat.mul_le_mul_right (chunk-1) h1
  have e:chunk*8192=8192*(chunk-1)+8192:=by
   obtain⟨k,rfl⟩:∃k,chunk=k+1:=⟨chunk-1,by omega⟩
   simp only[Nat.add_sub_cancel];omega
  omega
theorem uO(n o c:Int)(w:World)(h:¬((1≤n∧n≤8192)∧(1≤o∧o≤8192)∧(1≤c∧c≤16))):
 Calls Tryz.prog 107 #[.int .i64 n,.int .i64 o,.int .i64 c] w λe w'=>e= .returned (.tuple #[.int .i64 0,.int .i64 0])∧Below w.heap.size w w':=by
 have hb:∀a b,Below w.heap.size w ((w.alloc a).alloc b):=λa b=>((Below.refl _ w).alloc (Nat.le_refl _) _).alloc (by simp) _
 by_cases h1:1≤n∧n≤8192
 ·by_cases h2:1≤o∧o≤8192
  ·have h3:¬(1≤c∧c≤16):=λh3=>h ⟨h1,h2,h3⟩
   clear h;have H1:Hid (1≤n∧n≤8192):=h1;have H2:Hid (1≤o∧o≤8192):=h2;have H3:Hid (¬(1≤c∧c≤16)):=h3;clear h1 h2 h3;go_enter Tryz.func107,Tryz.ntmps107
   go_wp2_with (first
    |((go_at_call 127)
      refine yi 0 (.int .i64 n) rfl ?_;refine(vg _ _ _ _ H1.out).mono ?_;(rintro e w1 ⟨rfl,rfl⟩))
    |((go_at_call 127)
      refine yi 0 (.int .i64 o) rfl ?_;refine(vg _ _ _ _ H2.out).mono ?_;(rintro e w1 ⟨rfl,rfl⟩))
    |((go_at_call 127)
      refine(Qf _ _ _ _ H3.out).mono ?_;(rintro e w1 ⟨rfl,rfl⟩)))
   go_ret2
   exact⟨rfl,hb _ _⟩
  ·clear h
   have H1:Hid (1≤n∧n≤8192):=h1;have H2:Hid (¬(1≤o∧o≤8192)):=h2;clear h1 h2;go_enter Tryz.func107,Tryz.ntmps107
   go_wp2_with (first
    |((go_at_call 127)
      refine yi 0 (.int .i64 n) rfl ?_;refine(vg _ _ _ _ H1.out).mono ?_;(rintro e w1 ⟨rfl,rfl⟩))
    |((go_at_call 127)
      refine yi 0 (.int .i64 o) rfl ?_;refine(Qf _ _ _ _ H2.out).mono ?_;(rintro e w1 ⟨rfl,rfl⟩)))
   go_ret2
   exact⟨rfl,hb _ _⟩
 ·clear h
  have H1:Hid (¬(1≤n∧n≤8192)):=h1;clear h1;go_enter Tryz.func107,Tryz.ntmps107
  go_wp2_with (first
   |((go_at_call 127)
     refine(Qf _ _ _ _ H1.out).mono ?_;(rintro e w1 ⟨rfl,rfl⟩)))
  go_ret2
  exact⟨rfl,hb _ _⟩
theorem gD(n o c:Nat)(w:World)(h1:1≤n∧n≤8192)(h2:1≤o∧o≤8192)(h3:1≤c∧c≤16):
 Calls Tryz.prog 107 #[.int .i64 (n:Nat),.int .i64 (o:Nat),.int .i64 (c:Nat)] w λe w'=>∃s:Nat,e= .returned (.tuple #[.int .i64 (Dy (yo o c) s:Nat),.int .i64 (s:Nat)])∧vB (jU o c) (Z8 (yo o c) c n) s∧Below w.heap.size w w':=by
 have hcl:=Uw h2.1 h2.2 h3.1
 have H1:Hid ((1:Int)≤(n:Int)∧(n:Int)≤8192):=(by omega:(1:Int)≤(n:Int)∧(n:Int)≤8192)
 have H2:Hid ((1:Int)≤(o:Int)∧(o:Int)≤8192):=(by omega:(1:Int)≤(o:Int)∧(o:Int)≤8192)
 have H3:Hid ((1:Int)≤(c:Int)∧(c:Int)≤16):=(by omega:(1:Int)≤(c:Int)∧(c:Int)≤16)
 have g1:=λW=>Jp o c W (by omega) (by omega) (by omega)
 have g2:=λW=>Jp (jU o c) 16 W (by omega) (by omega) (by omega)
 rw[show(o+c-1) / c=jU o c from rfl]at g1;rw[show(jU o c+16-1) / 16=yo o c from rfl]at g2;have ht:yo o c≤8192:=by unfold yo;omega
 generalize yo o c=T at *;generalize jU o c=K at *
 obtain⟨W0,hW0⟩:∃W0,W0=((w.alloc (.cells #[.int .i64 (n:Nat)] 3)).alloc (.cells #[.int .i64 (c:Nat)] 3)).alloc (.cells #[.int .i64 (T:Nat)] 3):=⟨_,rfl⟩
 have hs0:W0.heap.size=w.heap.size+3:=by rw[hW0];simp
 have c1:W0.cell? ⟨w.heap.size+1+1,0,none⟩=some (.int .i64 (T:Nat)):=by rw[hW0];simp[go_sem]
 have c2:W0.cell? ⟨w.heap.size+1,0,none⟩=some (.int .i64 (c:Nat)):=by rw[hW0];simp[go_sem]
 have c3:W0.cell? ⟨w.heap.size,0,none⟩=some (.int .i64 (n:Nat)):=by rw[hW0];simp[go_sem]
 have hB0:Below w.heap.size w W0:=by rw[hW0];exact(((Below.refl _ w).alloc (Nat.le_refl _) _).alloc (by simp) _).alloc (by simp;omega) _
 have hG:=QS 130 #[.pointer (some ⟨w.heap.size+1+1,0,none⟩),.pointer (some ⟨w.heap.size+1,0,none⟩),.pointer (some ⟨w.heap.size,0,none⟩)] K (Z8 T c n) W0 (enters_of Tryz.func130 (by kernel_rfl) rfl) (by omega)
  (λd W hd hb=>GM d T c n _ _ _ W (by omega) ht h3.2 (by rw[←c1];exact hb.cell (p:=⟨w.heap.size+1+1,0,none⟩) (by show w.heap.size+1+1<_;omega)) (by rw[←c2];exact hb.cell (p:=⟨w.heap.size+1,0,none⟩) (by show w.heap.size+1<_;omega)) (by rw[←c3];exact hb.cell (p:=⟨w.heap.size,0,none⟩) (by show w.heap.size<_;omega)))
  (λa b hab hb h=>UN a b hab h)
 have HG:Hid (Calls Tryz.prog 129 #[.int .i64 (K:Nat),.func (.func 130) #[] #[.pointer (some ⟨w.heap.size+1+1,0,none⟩),.pointer (some ⟨w.heap.size+1,0,none⟩),.pointer (some ⟨w.heap.size,0,none⟩)]] W0 λe w'=>∃r:Nat,e= .returned (.int .i64 (r:Nat))∧vB K (Z8 T c n) r∧Below W0.heap.size W0 w'):=hG;clear hG;have C1:Hid (W0.cell? ⟨w.heap.size+1+1,0,none⟩=some (.int .i64 (T:Nat))):=c1;have G1:Hid (∀W,Calls Tryz.prog 128 #[.int .i64 (o:Nat),.int .i64 (c:Nat)] W λe w'=>e= .returned (.int .i64 (K:Nat))∧w'=W):=g1;have G2:Hid (∀W,Calls Tryz.prog 128 #[.int .i64 (K:Nat),.int .i64 16] W λe w'=>e= .returned (.int .i64 (T:Nat))∧w'=W):=g2;clear c1 c2 c3 h1 h2 h3 hcl g1 g2;go_enter Tryz.func107,Tryz.ntmps107
 go_wp2_with (first
  |((go_at_call 127)
    refine yi 0 (.int .i64 (n:Nat)) rfl ?_;refine(vg _ _ _ _ H1.out).mono ?_;(rintro e w1 ⟨rfl,rfl⟩))
  |((go_at_call 127)
    refine yi 0 (.int .i64 (o:Nat)) rfl ?_;refine(vg _ _ _ _ H2.out).mono ?_;(rintro e w1 ⟨rfl,rfl⟩))
  |((go_at_call 127)
    refine(vg _ _ _ _ H3.out).mono ?_;(rintro e w1 ⟨rfl,rfl⟩))
  |((go_at_call 128)
    refine yi 1 (.int .i64 16) rfl ?_;refine(G2.out _).mono ?_;(rintro e w1 ⟨rfl,rfl⟩))
  |((go_at_call 128)
    refine(G1.out _).mono ?_;(rintro e w1 ⟨rfl,rfl⟩))
  |((go_at_call 129)
    rw[←hW0];refine HG.out.mono ?_;rintro e w1 ⟨r,rfl,h1,h4⟩;have c1:w1.cell? ⟨w.heap.size+1+1,0,none⟩=some (.int .i64 (T:Nat)):=(h4.cell (p:=⟨w.heap.size+1+1,0,none⟩) (by show w.heap.size+1+1<_;omega)).trans C1.out;(clear HG hW0)))
 all_goals go_ret2
 ·rename_i hz
  obtain rfl:r=0:=by simpa using hz
  exact⟨0,rfl,h1,hB0.trans (h4.mono (by omega))⟩
 ·rename_i hz
  have hz':¬r=0:=by simpa using hz
  refine⟨r,?_,h1,hB0.trans (h4.mono (by omega))⟩;unfold Dy;rw[if_neg hz'];rfl
structure R3 where
 d:Int
 f:Int
 c:Int
def R3.v(r:R3):Value:= .agg #[.int .i64 r.d,.int .i64 r.f,.int .i64 r.c]
def vP(f c:Int):Bool:=decide (0<c∧0≤f∧c≤2147483647∧f≤2147483647-c)
theorem Jh(f c:Int):vP f c=true↔(0<c∧0≤f∧c≤2147483647∧f≤2147483647-c):=by unfold vP;simp
theorem YB(f c:Int):vP f c=false↔ ¬(0<c∧0≤f∧c≤2147483647∧f≤2147483647-c):=by unfold vP;simp
def xg(a b:R3):Bool:=decide (vP a.f a.c=true∧vP b.f b.c=true∧a.d=b.d∧a.f<b.f+b.c∧b.f<a.f+a.c)
theorem GJ(a n:Int)(w:World)(h:0≤a∧0≤n∧n≤2147483647∧a≤2147483647-n):Calls Tryz.prog 109 #[.int .i64 a,.int .i64 n,.int .i64 2147483647] w λe w'=>e= .returned (.bool true)∧w'=w:=by
 obtain⟨h1,h2,h3,h4⟩:=h;go_enter Tryz.func109,Tryz.ntmps109
 go_wp2
 go_ret
 exact⟨rfl,rfl⟩
theorem g9(a n:Int)(w:World)(h:¬(0≤a∧0≤n∧n≤2147483647∧a≤2147483647-n)):Calls Tryz.prog 109 #[.int .i64 a,.int .i64 n,.int .i64 2147483647] w λe w'=>e= .returned (.bool false)∧w'=w:=by
 rcases(by omega:a<0∨(0≤a∧n<0)∨(0≤a∧0≤n∧2147483647<n)∨(0≤a∧0≤n∧n≤2147483647∧¬a≤2147483647-n))with h1|⟨h1,h2⟩|⟨h1,h2,h3⟩|⟨h1,h2,h3,h4⟩
 case inr.inr.inr=>have h5:=decide_eq_false h4
                   clear h;go_enter Tryz.func109,Tryz.ntmps109
                   go_wp2
                   go_ret
                   exact⟨rfl,rfl⟩
 all_goals
  clear h;go_enter Tryz.func109,Tryz.ntmps109
  go_wp2
  go_ret
  exact⟨rfl,rfl⟩
theorem XO(d f c:Int)(w:World):Calls Tryz.prog 99 #[.agg #[.int .i64 d,.int .i64 f,.int .i64 c]] w λe w'=>e= .returned (.bool (vP f c))∧Below w.heap.size w w':=by
 have hb:∀a,Below w.heap.size w (w.alloc a):=λa=>(Below.refl _ w).alloc (Nat.le_refl _) _
 by_cases h0:0<c
 ·by_cases h:0≤f∧0≤c∧c≤2147483647∧f≤2147483647-c
  ·have hl:vP f c=true:=(Jh f c).2 ⟨h0,h.1,h.2.2.1,h.2.2.2⟩
   have H:Hid (0≤f∧0≤c∧c≤2147483647∧f≤2147483647-c):=h;rw[hl];clear h hl;go_enter Tryz.func99,Tryz.ntmps99
   go_wp2_with (first
    |((go_at_call 109)
      refine(GJ _ _ _ H.out).mono ?_;(rintro e w1 ⟨rfl,rfl⟩)))
   go_ret
   exact⟨rfl,hb _⟩
  ·have hl:vP f c=false:=(YB f c).2 (λk=>h ⟨k.2.1,by omega,k.2.2.1,k.2.2.2⟩)
   have H:Hid (¬(0≤f∧0≤c∧c≤2147483647∧f≤2147483647-c)):=h;rw[hl];clear h hl;go_enter Tryz.func99,Tryz.ntmps99
   go_wp2_with (first
    |((go_at_call 109)
      refine(g9 _ _ _ H.out).mono ?_;(rintro e w1 ⟨rfl,rfl⟩)))
   go_ret
   exact⟨rfl,hb _⟩
 ·have hl:vP f c=false:=(YB f c).2 (λk=>h0 k.1)
  rw[hl];clear hl;go_enter Tryz.func99,Tryz.ntmps99
  go_wp2
  go_ret
  exact⟨rfl,hb _⟩
theorem yX{a b:R3}(h:¬(vP a.f a.c=true∧vP b.f b.c=true∧a.d=b.d∧a.f<b.f+b.c∧b.f<a.f+a.c)):xg a b=false:=by
 unfold xg;exact decide_eq_false h
theorem GK{a b:R3}(h:vP a.f a.c=true∧vP b.f b.c=true∧a.d=b.d∧a.f<b.f+b.c∧b.f<a.f+a.c):xg a b=true:=by
 unfold xg;exact decide_eq_true h
theorem jr{w:World}{g t:Nat}{x y z:Value}(h:zi w g t #[x,y,z]):w.cell? ⟨g,0,none⟩=some x∧w.cell? ⟨g,1,none⟩=some y∧w.cell? ⟨g,2,none⟩=some z:=⟨h.cell 0,h.cell 1,h.cell 2⟩
theorem GS(a b:R3)(w:World):Calls Tryz.prog 86 #[a.v,b.v] w λe w'=>e= .returned (.bool (xg a b))∧Below w.heap.size w w':=by
 obtain⟨ad,af,ac⟩:=a;obtain⟨bd,bf,bc⟩:=b
 obtain⟨W0,hW0⟩:∃W0,W0=(w.alloc (.cells #[.int .i64 ad,.int .i64 af,.int .i64 ac] 42)).alloc (.cells #[.int .i64 bd,.int .i64 bf,.int .i64 bc] 42):=⟨_,rfl⟩
 have hB0:Below w.heap.size w W0:=by rw[hW0];exact((Below.refl _ w).alloc (Nat.le_refl _) _).alloc (by simp) _
 have hs0:W0.heap.size=w.heap.size+2:=by rw[hW0];simp
 have hA:zi W0 w.heap.size 42 #[.int .i64 ad,.int .i64 af,.int .i64 ac]:=by rw[hW0];exact(zi.new _ _ _).alloc _
 have hB:zi W0 (w.heap.size+1) 42 #[.int .i64 bd,.int .i64 bf,.int .i64 bc]:=by rw[hW0];exact zi.new_at (by simp)
 have hla:=XO ad af ac W0;by_cases h1:vP af ac=true
 ·rw[h1]at hla
  have HA:Hid (Calls Tryz.prog 99 #[.agg #[.int .i64 ad,.int .i64 af,.int .i64 ac]] W0 λe w'=>e= .returned (.bool true)∧Below W0.heap.size W0 w'):=hla;obtain⟨l1,l2,l3,l4⟩:=(Jh af ac).1 h1;clear hla;by_cases h2:vP bf bc=true
  ·have HB:Hid (∀W,Calls Tryz.prog 99 #[.agg #[.int .i64 bd,.int .i64 bf,.int .i64 bc]] W λe w'=>e= .returned (.bool true)∧Below W.heap.size W w'):=λW=>by rw[←h2];exact XO bd bf bc W
   obtain⟨m1,m2,m3,m4⟩:=(Jh bf bc).1 h2;by_cases h3:ad=bd
   ·by_cases h4:af<bf+bc
    ·by_cases h5:bf<af+ac
     ·rw[GK (a:=⟨ad,af,ac⟩) (b:=⟨bd,bf,bc⟩) ⟨h1,h2,h3,h4,h5⟩]
      simp only[R3.v];subst h3;clear h1 h2;go_enter Tryz.func86,Tryz.ntmps86
      go_wp2_with (first
       |((go_at_call 99)
         refine yi 0 (.agg #[.int .i64 ad,.int .i64 af,.int .i64 ac]) rfl ?_;rw[←hW0];refine HA.out.mono ?_;rintro e w1 ⟨rfl,hb1⟩;obtain⟨a0,a1,a2⟩:=jr (hA.below hb1 hA.lt);(obtain⟨b0,b1,b2⟩:=jr (hB.below hb1 hB.lt)))
       |((go_at_call 99)
         refine(HB.out _).mono ?_;rintro e w2 ⟨rfl,hb2⟩;obtain⟨x0,x1,x2⟩:=jr ((hA.below hb1 hA.lt).below hb2 (hA.below hb1 hA.lt).lt);(obtain⟨y0,y1,y2⟩:=jr ((hB.below hb1 hB.lt).below hb2 (hB.below hb1 hB.lt).lt))))
      go_ret
      exact⟨rfl,(hB0.trans (hb1.mono (by omega))).trans (hb2.mono (by have:=hb1.size;omega))⟩
     ·rw[yX (a:=⟨ad,af,ac⟩) (b:=⟨bd,bf,bc⟩) (λk=>h5 k.2.2.2.2)]
      have h6:=decide_eq_false h5;simp only[R3.v];subst h3;clear h1 h2;go_enter Tryz.func86,Tryz.ntmps86
      go_wp2_with (first
       |((go_at_call 99)
         refine yi 0 (.agg #[.int .i64 ad,.int .i64 af,.int .i64 ac]) rfl ?_;rw[←hW0];refine HA.out.mono ?_;rintro e w1 ⟨rfl,hb1⟩;obtain⟨a0,a1,a2⟩:=jr (hA.below hb1 hA.lt);(obtain⟨b0,b1,b2⟩:=jr (hB.below hb1 hB.lt)))
       |((go_at_call 99)
         refine(HB.out _).mono ?_;rintro e w2 ⟨rfl,hb2⟩;obtain⟨x0,x1,x2⟩:=jr ((hA.below hb1 hA.lt).below hb2 (hA.below hb1 hA.lt).lt);(obtain⟨y0,y1,y2⟩:=jr ((hB.below hb1 hB.lt).below hb2 (hB.below hb1 hB.lt).lt))))
      go_ret
      exact⟨rfl,(hB0.trans (hb1.mono (by omega))).trans (hb2.mono (by have:=hb1.size;omega))⟩
    ·rw[yX (a:=⟨ad,af,ac⟩) (b:=⟨bd,bf,bc⟩) (λk=>h4 k.2.2.2.1)]
     simp only[R3.v];subst h3;clear h1 h2;go_enter Tryz.func86,Tryz.ntmps86
     go_wp2_with (first
      |((go_at_call 99)
        refine yi 0 (.agg #[.int .i64 ad,.int .i64 af,.int .i64 ac]) rfl ?_;rw[←hW0];refine HA.out.mono ?_;rintro e w1 ⟨rfl,hb1⟩;obtain⟨a0,a1,a2⟩:=jr (hA.below hb1 hA.lt);(obtain⟨b0,b1,b2⟩:=jr (hB.below hb1 hB.lt)))
      |((go_at_call 99)
        refine(HB.out _).mono ?_;rintro e w2 ⟨rfl,hb2⟩;obtain⟨x0,x1,x2⟩:=jr ((hA.below hb1 hA.lt).below hb2 (hA.below hb1 hA.lt).lt);(obtain⟨y0,y1,y2⟩:=jr ((hB.below hb1 hB.lt).below hb2 (hB.below hb1 hB.lt).lt))))
     go_ret
     exact⟨rfl,(hB0.trans (hb1.mono (by omega))).trans (hb2.mono (by have:=hb1.size;omega))⟩
   ·rw[yX (a:=⟨ad,af,ac⟩) (b:=⟨bd,bf,bc⟩) (λk=>h3 k.2.2.1)]
    simp only[R3.v];clear h1 h2;go_enter Tryz.func86,Tryz.ntmps86
    go_wp2_with (first
     |((go_at_call 99)
       refine yi 0 (.agg #[.int .i64 ad,.int .i64 af,.int .i64 ac]) rfl ?_;rw[←hW0];refine HA.out.mono ?_;rintro e w1 ⟨rfl,hb1⟩;obtain⟨a0,a1,a2⟩:=jr (hA.below hb1 hA.lt);(obtain⟨b0,b1,b2⟩:=jr (hB.below hb1 hB.lt)))
     |((go_at_call 99)
       refine(HB.out _).mono ?_;rintro e w2 ⟨rfl,hb2⟩;obtain⟨x0,x1,x2⟩:=jr ((hA.below hb1 hA.lt).below hb2 (hA.below hb1 hA.lt).lt);(obtain⟨y0,y1,y2⟩:=jr ((hB.below hb1 hB.lt).below hb2 (hB.below hb1 hB.lt).lt))))
    go_ret
    exact⟨rfl,(hB0.trans (hb1.mono (by omega))).trans (hb2.mono (by have:=hb1.size;omega))⟩
  ·have HB:Hid (∀W,Calls Tryz.prog 99 #[.agg #[.int .i64 bd,.int .i64 bf,.int .i64 bc]] W λe w'=>e= .returned (.bool false)∧Below W.heap.size W w'):=λW=>by rw[←(show vP bf bc=false by simpa using h2)];exact XO bd bf bc W
   rw[yX (a:=⟨ad,af,ac⟩) (b:=⟨bd,bf,bc⟩) (λk=>h2 k.2.1)];simp only[R3.v];clear h1 h2;go_enter Tryz.func86,Tryz.ntmps86
   go_wp2_with (first
    |((go_at_call 99)
      refine yi 0 (.agg #[.int .i64 ad,.int .i64 af,.int .i64 ac]) rfl ?_;rw[←hW0];refine HA.out.mono ?_;rintro e w1 ⟨rfl,hb1⟩;obtain⟨a0,a1,a2⟩:=jr (hA.below hb1 hA.lt);(obtain⟨b0,b1,b2⟩:=jr (hB.below hb1 hB.lt)))
    |((go_at_call 99)
      refine(HB.out _).mono ?_;rintro e w2 ⟨rfl,hb2⟩;obtain⟨x0,x1,x2⟩:=jr ((hA.below hb1 hA.lt).below hb2 (hA.below hb1 hA.lt).lt);(obtain⟨y0,y1,y2⟩:=jr ((hB.below hb1 hB.lt).below hb2 (hB.below hb1 hB.lt).lt))))
   go_ret
   exact⟨rfl,(hB0.trans (hb1.mono (by omega))).trans (hb2.mono (by have:=hb1.size;omega))⟩
 ·rw[yX (a:=⟨ad,af,ac⟩) (b:=⟨bd,bf,bc⟩) (λk=>h1 k.1)]
  rw[show vP af ac=false by simpa using h1]at hla;have HA:Hid (Calls Tryz.prog 99 #[.agg #[.int .i64 ad,.int .i64 af,.int .i64 ac]] W0 λe w'=>e= .returned (.bool false)∧Below W0.heap.size W0 w'):=hla;simp only[R3.v];clear h1 hla;go_enter Tryz.func86,Tryz.ntmps86
  go_wp2_with (first
   |((go_at_call 99)
     rw[←hW0];refine HA.out.mono ?_;(rintro e w1 ⟨rfl,hb1⟩)))
  go_ret
  exact⟨rfl,hB0.trans (hb1.mono (by omega))⟩
end
section
structure Pt where
 kind:Nat
 size:Nat
 kids:List Nat
 dev:Nat
 first:Nat
 chunk:Nat
 key:List UInt8
 root:List UInt8
structure Mn where
 word:List UInt8
 node:Nat
 bytes:List UInt8
abbrev vL:=List (List UInt8×Mn)
abbrev Er:=Nat×Int
def lk(ns:vL)(s:List UInt8):Option Mn:=(ns.find? (λx=>x.1==s)).map (·.2)
def qY(ns:vL)(ws:List (List UInt8)):Nat:=(ns.filter (λx=>ws.any (λy=>x.2.word==y))).length
def qm(ns:vL)(n:Nd)(ws:List (List UInt8)):Except Er Mn:=match lk ns n.s with
 |none=> .error (131,n.a)
 |some m=>if ws.any (λy=>m.word==y)then .ok m else .error (133,n.a)
def vO(o:List Bool)(p:Pt):Bool:=p.kind==8||(if p.kind==5 then p.kids.drop 1 else p.kids).any λk=>o.getD k false
def zF(ps:List Pt):List Bool:=ps.foldl (λo p=>o++ [vO o p]) []
def zz(ps:List Pt)(k:Nat):Pt:=ps.getD k ⟨0,0,[],0,0,0,[],[]⟩
def sz(ps:List Pt)(k:Nat):Nat:=(zz ps k).size
def gx(L:Nat)(F:Nat→Bool):Nat:=match L with
 |0=>0
 |L+1=>let r:=gx L F
       if r=L∧F (L+1)=true then L+1 else r
theorem QU(L:Nat)(F:Nat→Bool):vB L F (gx L F):=by
 induction L with
 |zero=>exact⟨Nat.le_refl _,λt h=>absurd h (Nat.not_lt_zero _),λh=>absurd h (Nat.not_lt_zero _)⟩
 |succ L ih =>
  obtain⟨h1,h2,h3⟩:=ih;unfold gx;show vB (L+1) F (if gx L F=L∧F (L+1)=true then L+1 else gx L F);generalize gx L F=r at *;by_cases e:r=L∧F (L+1)=true
  ·rw[if_pos e]
   obtain⟨rfl,e2⟩:=e;refine⟨Nat.le_refl _,λt ht=>?_,λh=>absurd h (Nat.lt_irrefl _)⟩;by_cases e3:t<r
   ·exact h2 t e3
   ·obtain rfl:t=r:=by omega
    exact e2
  ·rw[if_neg e]
   refine⟨by omega,h2,λ_=>?_⟩;by_cases e3:r<L
   ·exact h3 e3
   ·obtain rfl:r=L:=by omega
    cases hF:F (r+1)with
    |false=>rfl
    |true=>exact absurd ⟨rfl,hF⟩ e
def dI(n:Nat):Nat:=gx 8192 (Ju tg n)
def dV(n:Nat):Nat:=gx 2048 (Ju hs n)
def Dc(n o:Nat)(c:Int):Nat:=if(1≤n∧n≤8192)∧(1≤o∧o≤8192)∧(1≤c∧c≤16)then gx (jU o c.toNat) (Z8 (yo o c.toNat) c.toNat n)else 0
def hv1(b:UInt8):Nat:=if 97≤b.toNat then b.toNat-87 else b.toNat-48
def jZ:List UInt8→List UInt8
 |a::b::r=>UInt8.ofNat (16*hv1 a+hv1 b)::jZ r
 |_=> []
def jc(n:Nd):List Nd:=n.l.filter λx=> !(x.op==vH||x.op==jN)
def jA(l:List Nd)(k:Nat):Nd:=l.getD k (.mk [] [] 0 0 [])
def vu(ps:List Pt)(n:Nd)(ks:List Nat):Except Er Pt:=
 if ¬(2≤ks.length∧ks.length≤4)then .error (135,n.a)
 else if n.op=qE then
  if(ks.map (sz ps)).sum≤8192 then .ok ⟨3,(ks.map (sz ps)).sum,ks,0,0,0,[],[]⟩else .error (134,n.a)
 else if ks.all (λk=>sz ps k==sz ps (ks.getD 0 0))then .ok ⟨4,sz ps (ks.getD 0 0),ks,0,0,0,[],[]⟩else .error (134,n.a)
def qv(ns:vL)(n:Nd)(size:Nat)(ks:List Nat):Except Er Pt:=
 if n.op=jH then match qm ns (jA n.l 1) [qj]with
  | .error e=> .error e
  | .ok m=>if m.bytes.take 16=m.bytes.drop 16 then .error (135,n.a)else .ok ⟨6,size,ks,0,0,0,m.bytes,[]⟩
 else if n.op=qk then match qm ns (jA n.l 1) [qj]with
  | .error e=> .error e
  | .ok m=>if dI size=0 then .error (134,n.a)else .ok ⟨7,dI size,ks,0,0,0,m.bytes,[]⟩
 else match qm ns (jA n.l 1) [zS]with
  | .error e=> .error e
  | .ok m=>if dV size=0 then .error (134,n.a)else .ok ⟨8,dV size,ks,0,0,0,[],m.bytes⟩
def jd(ns:vL)(ps:List Pt)(n:Nd)(ks:List Nat):Except Er Pt:=
 if n.op=qO then
  if 0<(jA n.l 2).n∧(jA n.l 1).n+(jA n.l 2).n≤sz ps (ks.getD 0 0)then .ok ⟨2,(jA n.l 2).n.toNat,ks,0,(jA n.l 1).n.toNat,0,[],[]⟩else .error (134,n.a)
 else if n.op=qE∨n.op=qW then vu ps n ks
 else if n.op=qi then
  if Dc (sz ps (ks.getD 1 0)) (sz ps (ks.getD 0 0)) (jA n.l 2).n=0 then .error (134,n.a)
  else if(zF ps).getD (ks.getD 1 0) false then .error (139,n.a)
  else .ok ⟨5,sz ps (ks.getD 0 0),ks,0,0,(jA n.l 2).n.toNat,[],[]⟩
 else qv ns n (sz ps (ks.getD 0 0)) ks
def qG(f:List Pt→Nd→Except Er (Nat×List Pt)):List Pt→List Nd→Except Er (List Nat×List Pt)
 |ps,[]=> .ok ([],ps)
 |ps,x::l=>match f ps x with
  | .error e=> .error e
  | .ok (k,p1)=>match qG f p1 l with
    | .error e=> .error e
    | .ok (ks,p2)=> .ok (k::ks,p2)
def qP(ns:vL):Nat→List Pt→Nd→Except Er (Nat×List Pt)
 |0,ps,n=> .error (0,0)
 |d+1,ps,n=>if n.op=ye then match qm ns n [zd,zr]with
   | .error e=> .error e
   | .ok m=> .ok (m.node,ps)
  else match qG (qP ns d) ps (jc n)with
   | .error e=> .error e
   | .ok (ks,p1)=>if 64≤p1.length then .error (137,n.a)else match jd ns p1 n ks with
     | .error e=> .error e
     | .ok p=> .ok (p1.length,p1++ [p])
structure Ck where
 devs:List Nat
 jour:Option Nat
 parts:List Pt
 expo:Option Nat
 ro:Bool
 eat:Int
 names:vL
def full(ns:vL)(op:List UInt8):Bool:=
 if op=zd∨op=zj then qY ns [zd,zj]==8
 else if op=qj∨op=zS then qY ns [qj,zS]==8
 else qY ns [zr]==16
def jg(c:Ck)(n:Nd):Except Er (Ck×Mn):=
 if n.op=zj then
  if ¬(256≤n.n∧n.n≤2048)then .error (134,n.a)
  else if c.jour.isSome then .error (138,n.a)
  else .ok ({ c with jour:=some c.devs.length,devs:=c.devs++ [n.n.toNat] },⟨n.op,qY c.names [zd],[]⟩)
 else if n.op=zd then
  if ¬(1≤n.n∧n.n≤2048)then .error (134,n.a)
  else .ok ({ c with devs:=c.devs++ [n.n.toNat] },⟨n.op,qY c.names [zd],[]⟩)
 else if n.op=qj∨n.op=zS then
  if(jA n.l 0).s.length≠64 then .error (135,n.a)else .ok (c,⟨n.op,0,jZ (jA n.l 0).s⟩)
 else match qP c.names 12 c.parts (jA n.l 0)with
  | .error e=> .error e
  | .ok (k,ps)=> .ok ({ c with parts:=ps },⟨n.op,k,[]⟩)
def vw(c:Ck)(n:Nd):Except Er Ck:=
 if c.expo.isSome then .error (138,n.a)
 else match qm c.names n [zd,zr]with
  | .error e=> .error e
  | .ok m=> .ok { c with expo:=some m.node,ro:=decide (n.n=1)||(zF c.parts).getD m.node false,eat:=n.a }
def qX(c:Ck)(n:Nd):Except Er Ck:=
 if n.op=zH then vw c n
 else if(lk c.names n.s).isSome then .error (132,n.a)
 else if full c.names n.op then .error (137,n.a)
 else match jg c n with
  | .error e=> .error e
  | .ok (c1,m)=> .ok { c1 with names:=c1.names++ [(n.s,m)] }
def qL:Ck→List Nd→Except Er Ck
 |c,[]=> .ok c
 |c,x::l=>match qX c x with
  | .error e=> .error e
  | .ok c1=>qL c1 l
def zV:Nat→List Nd→List Pt
 |_,[]=> []
 |d,x::l=>if x.op=zd then⟨1,x.n.toNat,[],d,0,0,[],[]⟩::zV (d+1) l else if x.op=zj then zV (d+1) l else zV d l
def qU(ps:List Pt)(p f c:Int):Bool:=decide (0≤p∧p<ps.length∧0≤f∧0<c∧f≤(sz ps p.toNat:Int)-c)
def jO(ps:List Pt)(g:List R3→Nat→Int→Int→List R3)(out:List R3)(p:Pt)(f c:Int):List R3:=
 if p.kind=1 then out++ [⟨p.dev,f,c⟩]
 else if p.kind=2 then p.kids.foldl (λo k=>g o k (f+p.first) c) out
 else if p.kind=4∨p.kind=6 then p.kids.foldl (λo k=>g o k f c) out
 else if p.kind=3 then(p.kids.foldl (λ(x:List R3×Int) k=>(g x.1 k (max (f-x.2) 0) (min (f+c-x.2) (sz ps k)-max (f-x.2) 0),x.2+sz ps k)) (out,0)).1
 else if p.kind=5 then g (g out (p.kids.getD 0 0) f c) (p.kids.getD 1 0) 0 (sz ps (p.kids.getD 1 0))
 else if p.kind=7∨p.kind=8 then g out (p.kids.getD 0 0) 0 (sz ps (p.kids.getD 0 0))
 else out
def jX(ps:List Pt):Nat→List R3→Nat→Int→Int→List R3
 |0,out,_,_,_=>out
 |d+1,out,k,f,c=>if 256<out.length∨qU ps k f c=false then out else jO ps (jX ps d) out (zz ps k) f c
def yM(ps:List Pt)(p f c:Int):List R3:=if qU ps p f c=false then[]else jX ps ps.length [] p.toNat f c
def ZQ(l:List R3):Bool:=(List.range l.length).any λb=>(List.range b).any λa=>xg (l.getD a ⟨0,0,0⟩) (l.getD b ⟨0,0,0⟩)
structure Qe where
 devs:List Nat
 jour:Nat
 parts:List Pt
 expo:Nat
 ro:Bool
def jK(c:Ck):Except Er Qe:=match c.jour,c.expo with
 |some j,some x=>if 256<(yM c.parts x 0 (sz c.parts x)).length then .error (137,c.eat)
  else if ZQ (yM c.parts x 0 (sz c.parts x))then .error (136,c.eat)
  else .ok ⟨c.devs,j,c.parts,x,c.ro⟩
 |_,_=> .error (138,0)
def V9(n:Nd):Except Er Qe:=match qL ⟨[],none,zV 0 n.l,none,false,0,[]⟩ n.l with
 | .error e=> .error e
 | .ok c=>jK c
end
section
def yn(ps:List Pt)(k:Nat):Prop:=k<ps.length∧1≤sz ps k∧sz ps k≤8192
structure FY (ps:List Pt) (p:Pt):Prop where
 kids:∀k ∈ p.kids,yn ps k
 some':p.kids≠ []
 lo:1≤p.size
 hi:p.size≤8192
 kind:2≤p.kind∧p.kind≤8
 lin:p.kind=2→p.first+p.size≤sz ps (p.kids.getD 0 0)
 cat:p.kind=3→p.size=(p.kids.map (sz ps)).sum
 mir:p.kind=4→∀k ∈ p.kids,sz ps k=p.size
 snap:p.kind=5→p.kids.length=2∧sz ps (p.kids.getD 0 0)=p.size
 cry:p.kind=6→sz ps (p.kids.getD 0 0)=p.size
 one:(p.kind=2∨p.kind=6∨p.kind=7∨p.kind=8)→p.kids.length=1
structure um (ps:List Pt) (p:Pt):Prop extends FY ps p where
 four:p.kids.length≤4
 fst:p.first≤8192
def vI(ns:vL)(ps:List Pt):Prop:=∀x ∈ ns,((x.2.word=zd∨x.2.word=zr)→yn ps x.2.node)∧((x.2.word=qj∨x.2.word=zS)→x.2.bytes.length=32)
theorem kD(ps qs:List Pt){k:Nat}(h:k<ps.length):zz (ps++qs) k=zz ps k:=by
 unfold zz;rw[List.getD_eq_getElem?_getD,List.getD_eq_getElem?_getD,List.getElem?_append_left h]
theorem YT(ps qs:List Pt)(p:Pt):zz (ps++p::qs) ps.length=p:=by
 unfold zz;rw[List.getD_eq_getElem?_getD,List.getElem?_append_right (Nat.le_refl _)];simp
theorem VN(ps qs:List Pt){k:Nat}(h:k<ps.length):sz (ps++qs) k=sz ps k:=by unfold sz;rw[kD ps qs h]
theorem yn.more{ps:List Pt}{k:Nat}(h:yn ps k)(qs:List Pt):yn (ps++qs) k:=by
 refine⟨by have:=h.1;simp;omega,?_⟩;rw[VN ps qs h.1];exact h.2
theorem vI.more{ns:vL}{ps:List Pt}(h:vI ns ps)(qs:List Pt):vI ns (ps++qs):=λx hx=>⟨λe=>((h x hx).1 e).more qs,(h x hx).2⟩
def Grown':List Pt→List Pt→Prop
 |_,[]=>True
 |ps,p::qs=>um ps p∧Grown' (ps++ [p]) qs
theorem Grown'.app{qs rs:List Pt}:∀ {ps:List Pt},Grown' ps qs→Grown' (ps++qs) rs→Grown' ps (qs++rs):=by
 induction qs with
 |nil=>intro ps _ h;simpa using h
 |cons q qs ih =>
  intro ps h1 h2;exact⟨h1.1,ih h1.2 (by simpa using h2)⟩
theorem U4{ns:vL}{s:List UInt8}{m:Mn}(h:lk ns s=some m):(s,m) ∈ ns:=by
 unfold lk at h;cases hf:ns.find? (λx=>x.1==s)with
 |none=>rw[hf]at h;cases h
 |some x =>
  rw[hf]at h;simp only[Option.map_some,Option.some.injEq]at h;have h1:=List.mem_of_find?_eq_some hf;have h2:=List.find?_some hf;simp only[beq_iff_eq]at h2;rw[←h2,←h];exact h1
theorem yB{ns:vL}{n:Nd}{ws:List (List UInt8)}{m:Mn}(h:qm ns n ws= .ok m):(n.s,m) ∈ ns∧m.word ∈ ws:=by
 unfold qm at h;cases hl:lk ns n.s with
 |none=>rw[hl]at h;cases h
 |some m' =>
  rw[hl]at h;simp only at h
  split at h
  ·rename_i hw
   cases h;refine⟨U4 hl,?_⟩;simp only[List.any_eq_true,beq_iff_eq]at hw;obtain⟨y,hy,e⟩:=hw;rw[e];exact hy
  ·cases h
theorem Zr{ns:vL}{ps:List Pt}(hn:vI ns ps){n:Nd}{m:Mn}(h:qm ns n [zd,zr]= .ok m):yn ps m.node:=by
 obtain⟨h1,h2⟩:=yB h;refine(hn _ h1).1 ?_
 simpa using h2
theorem kO{ns:vL}{ps:List Pt}(hn:vI ns ps){n:Nd}{m:Mn}{w:List UInt8}(hw:w=qj∨w=zS)(h:qm ns n [w]= .ok m):m.bytes.length=32:=by
 obtain⟨h1,h2⟩:=yB h;refine(hn _ h1).2 ?_;have :m.word=w:=by simpa using h2
 rw[this];exact hw
theorem JJ{x:Nat}(h:¬x=0):1≤x:=by omega
theorem Dm(n:Nat):dI n≤8192:=(QU _ _).1
theorem Dr(n:Nat):dV n≤2048:=(QU _ _).1
structure xa (n:Nd) (K:Nat):Prop where
 pos:1≤K
 lin:n.op=qO→K=1∧0≤(jA n.l 1).n∧0≤(jA n.l 2).n
 one:(n.op≠qE∧n.op≠qW∧n.op≠qi)→K=1
 snap:n.op=qi→K=2
theorem F8(f:Nat→Nat)(l:List Nat)(k:Nat)(h:k ∈ l):f k≤(l.map f).sum:=by
 induction l with
 |nil=>cases h
 |cons a l ih =>
  simp only[List.map_cons,List.sum_cons];rcases List.mem_cons.1 h with rfl|h'
  ·omega
  ·have:=ih h'
   omega
theorem yd{l:List Nat}{k:Nat}(h:k<l.length):l.getD k 0 ∈ l:=by
 rw[List.getD_eq_getElem?_getD,List.getElem?_eq_getElem h];exact List.getElem_mem h
theorem kE{ns:vL}{ps:List Pt}{n:Nd}{ks:List Nat}{p:Pt}(hn:vI ns ps)(hk:∀k ∈ ks,yn ps k)(hs:xa n ks.length)(h:jd ns ps n ks= .ok p):FY ps p∧p.kids=ks:=by
 have h0:ks≠ []:=by intro e;have:=hs.pos;rw[e]at this;simp at this
 have k0:yn ps (ks.getD 0 0):=hk _ (yd (by have:=hs.pos;omega));unfold jd at h;by_cases e1:n.op=qO
 ·rw[if_pos e1]at h
  obtain⟨hl1,hl2,hl3⟩:=hs.lin e1
  split at h
  ·rename_i hc
   cases h;refine⟨⟨hk,h0,(by show 1≤Int.toNat _;omega),(by show Int.toNat _≤8192;have:=k0.2.2;omega),⟨by simp,by simp⟩,λ_=>?_,(by intro e;cases e),(by intro e;cases e),(by intro e;cases e),(by intro e;cases e),λ_=>hl1⟩,rfl⟩;show(jA n.l 1).n.toNat+(jA n.l 2).n.toNat≤sz ps (ks.getD 0 0);omega
  ·cases h
 ·rw[if_neg e1]at h
  by_cases e2:n.op=qE∨n.op=qW
  ·rw[if_pos e2]at h
   unfold vu at h
   split at h
   ·cases h
   ·split at h
    ·split at h
     ·rename_i hc
      cases h;refine⟨⟨hk,h0,?_,hc,⟨by simp,by simp⟩,(by intro e;cases e),λ_=>rfl,(by intro e;cases e),(by intro e;cases e),(by intro e;cases e),(by rintro(e|e|e|e)<;>cases e)⟩,rfl⟩;have:=F8 (sz ps) ks _ (yd (k:=0) (by have:=hs.pos;omega));have:=k0.2.1;show 1≤(ks.map (sz ps)).sum;omega
     ·cases h
    ·split at h
     ·rename_i hc
      cases h;refine⟨⟨hk,h0,k0.2.1,k0.2.2,⟨by simp,by simp⟩,(by intro e;cases e),(by intro e;cases e),λ_ k hk'=>?_,(by intro e;cases e),(by intro e;cases e),(by rintro(e|e|e|e)<;>cases e)⟩,rfl⟩;have:=List.all_eq_true.1 hc k hk'
      simpa using this
     ·cases h
  ·rw[if_neg e2]at h
   by_cases e3:n.op=qi
   ·rw[if_pos e3]at h
    split at h
    ·cases h
    ·split at h
     ·cases h
     ·cases h
      exact⟨⟨hk,h0,k0.2.1,k0.2.2,⟨by simp,by simp⟩,(by intro e;cases e),(by intro e;cases e),(by intro e;cases e),λ_=>⟨hs.snap e3,rfl⟩,(by intro e;cases e),(by rintro(e|e|e|e)<;>cases e)⟩,rfl⟩
   ·rw[if_neg e3]at h
    have h1:ks.length=1:=hs.one ⟨λe=>e2 (.inl e),λe=>e2 (.inr e),e3⟩;unfold qv at h
    split at h
    ·split at h
     ·cases h
     ·split at h
      ·cases h
      ·cases h
       exact⟨⟨hk,h0,k0.2.1,k0.2.2,⟨by simp,by simp⟩,(by intro e;cases e),(by intro e;cases e),(by intro e;cases e),(by intro e;cases e),λ_=>rfl,λ_=>h1⟩,rfl⟩
    ·split at h
     ·split at h
      ·cases h
      ·split at h
       ·cases h
       ·rename_i hd
        have hD:=Dm (sz ps (ks.getD 0 0));generalize dI (sz ps (ks.getD 0 0))=D at h hd hD;cases h;exact⟨⟨hk,h0,JJ hd,hD,⟨by simp,by simp⟩,(by intro e;cases e),(by intro e;cases e),(by intro e;cases e),(by intro e;cases e),(by intro e;cases e),λ_=>h1⟩,rfl⟩
     ·split at h
      ·cases h
      ·split at h
       ·cases h
       ·rename_i hd
        have hD:=Dr (sz ps (ks.getD 0 0));generalize dV (sz ps (ks.getD 0 0))=D at h hd hD;cases h;exact⟨⟨hk,h0,JJ hd,Nat.le_trans hD (by decide),⟨by simp,by simp⟩,(by intro e;cases e),(by intro e;cases e),(by intro e;cases e),(by intro e;cases e),(by intro e;cases e),λ_=>h1⟩,rfl⟩
theorem kT{ns:vL}{ps:List Pt}{n:Nd}{ks:List Nat}{p:Pt}(hs:xa n ks.length)(h:jd ns ps n ks= .ok p):ks.length≤4:=by
 by_cases h1:n.op=qE∨n.op=qW
 ·unfold jd at h
  rw[if_neg (by rcases h1 with e|e<;>rw[e]<;>decide),if_pos h1]at h;unfold vu at h;by_cases q:2≤ks.length∧ks.length≤4
  ·exact q.2
  ·rw[if_pos q]at h
   cases h
 ·by_cases h2:n.op=qi
  ·rw[hs.snap h2];decide
  ·rw[hs.one ⟨λe=>h1 (.inl e),λe=>h1 (.inr e),h2⟩];decide
theorem YH{ns:vL}{ps:List Pt}{n:Nd}{ks:List Nat}{p:Pt}(hs:xa n ks.length)(k0:yn ps (ks.getD 0 0))(h:jd ns ps n ks= .ok p):p.first≤8192:=by
 unfold jd at h;by_cases e1:n.op=qO
 ·rw[if_pos e1]at h
  obtain⟨hl1,hl2,hl3⟩:=hs.lin e1
  split at h
  ·rename_i hc
   cases h;show Int.toNat _≤8192;have:=k0.2.2;omega
  ·cases h
 ·rw[if_neg e1]at h
  unfold vu qv at h
  repeat' split at h
  all_goals first
   |cases h;done
   |(cases h;exact Nat.zero_le _)
theorem Xj{ns:vL}{ps:List Pt}{n:Nd}{ks:List Nat}{p:Pt}(hn:vI ns ps)(hk:∀k ∈ ks,yn ps k)(hs:xa n ks.length)(h:jd ns ps n ks= .ok p):um ps p∧p.kids=ks:=by
 obtain⟨h1,h2⟩:=kE hn hk hs h;exact⟨⟨h1,by rw[h2];exact kT hs h,YH hs (hk _ (yd (by have:=hs.pos;omega))) h⟩,h2⟩
theorem Xh{f:List Pt→Nd→Except Er (Nat×List Pt)}(l:List Nd):∀ {ps:List Pt} {ks:List Nat} {p':List Pt},(∀qs x,x ∈ l→∀k p1,f (ps++qs) x= .ok (k,p1)→∃rs,p1=ps++qs++rs∧yn p1 k∧Grown' (ps++qs) rs)→qG f ps l= .ok (ks,p')→∃rs,p'=ps++rs∧(∀k ∈ ks,yn p' k)∧Grown' ps rs∧ks.length=l.length:=by
 induction l with
 |nil =>
  intro ps ks p' _ h;cases h;exact⟨[],by simp,(λk hk=>by cases hk),trivial,rfl⟩
 |cons x l ih =>
  intro ps ks p' hf h;unfold qG at h;cases h1:f ps x with
  |error e=>rw[h1]at h;cases h
  |ok r =>
   obtain⟨k,p1⟩:=r;rw[h1]at h;simp only at h;cases h2:qG f p1 l with
   |error e=>rw[h2]at h;cases h
   |ok r2 =>
    obtain⟨ks2,p2⟩:=r2;rw[h2]at h;cases h;obtain⟨rs,e1,hk1,hg1⟩:=hf [] x List.mem_cons_self k p1 (by simpa using h1);simp only[List.append_nil]at e1 hg1;subst e1
    obtain⟨rs2,e2,hk2,hg2,hl⟩:=ih (ps:=ps++rs) (λqs y hy k p1 hr=>by
     have:=hf (rs++qs) y (List.mem_cons_of_mem _ hy) k p1 (by simpa using hr)
     simpa using this) h2
    subst e2;refine⟨rs++rs2,by simp,λj hj=>?_,hg1.app (by simpa using hg2),by simp[hl]⟩;rcases List.mem_cons.1 hj with rfl|hj'
    ·exact hk1.more rs2
    ·exact hk2 j hj'
inductive Uo:Nat→Nd→Prop where
 |use (d:Nat) (n:Nd):n.op=ye→Uo (d+1) n
 |mk (d:Nat) (n:Nd):n.op≠ye→xa n (jc n).length→(∀x ∈ jc n,Uo d x)→Uo (d+1) n
theorem Q8{ns:vL}(d:Nat):∀ {ps:List Pt} {n:Nd} {k:Nat} {p':List Pt},vI ns ps→Uo d n→qP ns d ps n= .ok (k,p')→∃rs,p'=ps++rs∧yn p' k∧Grown' ps rs:=by
 induction d with
 |zero=>intro ps n k p' _ _ h;cases h
 |succ d ih =>
  intro ps n k p' hn hx h;unfold qP at h;cases hx with
  |use _ _ e =>
   rw[if_pos e]at h;cases hk:qm ns n [zd,zr]with
   |error e=>rw[hk]at h;cases h
   |ok m =>
    rw[hk]at h;cases h;exact⟨[],by simp,Zr hn hk,trivial⟩
  |mk _ _ e hs hl =>
   rw[if_neg e]at h;cases hc:qG (qP ns d) ps (jc n)with
   |error e=>rw[hc]at h;cases h
   |ok r =>
    obtain⟨ks,p1⟩:=r;rw[hc]at h;simp only at h
    obtain⟨rs,e1,hk1,hg1,hlen⟩:=Xh (jc n) (λqs x hx k p1 hr=>by
     obtain⟨rs,e,h1,h2⟩:=ih (hn.more qs) (hl x hx) hr
     exact⟨rs,e,h1,h2⟩) hc
    subst e1
    split at h
    ·cases h
    ·cases hp:jd ns (ps++rs) n ks with
     |error e=>rw[hp]at h;cases h
     |ok p =>
      rw[hp]at h;cases h;obtain⟨hp1,hp2⟩:=Xj (hn.more rs) hk1 (by rw[hlen];exact hs) hp;refine⟨rs++ [p],by simp,⟨by simp,?_⟩,hg1.app ⟨hp1,trivial⟩⟩;unfold sz;rw[YT];exact⟨hp1.lo,hp1.hi⟩
end
section
open Go.ChangeShapes Go.WideShapes Go.ChangeAt Go.RowKit
theorem qb{a b:Bool}(h:a=b):Ending.returned (.bool a)= .returned (.bool b):=by rw[h]
theorem JV(c:UInt8)(k:Nat)(hk:k<256):(c==UInt8.ofNat k)=decide ((c.toNat:Int)=(k:Int)):=by
 rw[Bool.eq_iff_iff];simp only[beq_iff_eq,decide_eq_true_eq];constructor
 ·rintro rfl;simp;omega
 ·intro h
  apply UInt8.toNat_inj.1;simp;omega
theorem Q6(c:UInt8):qZ c=(decide ((c.toNat:Int)=9)||decide ((c.toNat:Int)=10)||decide ((c.toNat:Int)=13)||decide ((c.toNat:Int)=32)):=by
 have h1:=JV c 9 (by decide);have h2:=JV c 10 (by decide);have h3:=JV c 13 (by decide);have h4:=JV c 32 (by decide);unfold qZ;exact congr (congrArg or (congr (congrArg or (congr (congrArg or h1) h2)) h3)) h4
theorem Jk(c:UInt8):qC c= !decide ((c.toNat:Int)=10):=congrArg not (JV c 10 (by decide))
theorem Jo(c:UInt8):zl c=(decide (48≤(c.toNat:Int))&&decide ((c.toNat:Int)≤57)):=by
 unfold zl;congr 1<;>exact decide_eq_decide.2 (by omega)
theorem YR(c:UInt8):zM c=(decide (97≤(c.toNat:Int))&&decide ((c.toNat:Int)≤122)):=by
 unfold zM;congr 1<;>exact decide_eq_decide.2 (by omega)
theorem Jf(c:UInt8):vR c=(zM c||decide ((c.toNat:Int)=95)):=by
 unfold vR;exact congrArg (or (zM c)) (JV c 95 (by decide))
theorem Y5(c:UInt8):zo c=(zl c||(decide (97≤(c.toNat:Int))&&decide ((c.toNat:Int)≤102))):=by
 unfold zo;congr 2<;>exact decide_eq_decide.2 (by omega)
def xw(f:Nat)(p:UInt8→Bool):Prop:=∀(c:UInt8) (w:World),Calls Tryz.prog f #[.int .u8 (c.toNat:Int)] w λe w'=>e= .returned (.bool (p c))∧w'=w
theorem Yd:xw 112 qZ:=by
 intro c w;go_enter Tryz.func112,Tryz.ntmps112
 go_wp2
 all_goals
  go_ret
  refine⟨qb ?_,rfl⟩;rw[Q6,Bool.eq_iff_iff];simp
  try omega
theorem Xp:xw 114 qC:=by
 intro c w;go_enter Tryz.func114,Tryz.ntmps114
 go_wp2
 all_goals
  go_ret
  refine⟨qb ?_,rfl⟩;rw[Jk,Bool.eq_iff_iff];simp
  try omega
theorem zY:xw 117 zl:=by
 intro c w;go_enter Tryz.func117,Tryz.ntmps117
 go_wp2
 all_goals
  go_ret
  refine⟨qb ?_,rfl⟩;rw[Jo,Bool.eq_iff_iff];simp
  try omega
theorem qe:xw 115 zM:=by
 intro c w;go_enter Tryz.func115,Tryz.ntmps115
 go_wp2
 all_goals
  go_ret
  refine⟨qb ?_,rfl⟩;rw[YR,Bool.eq_iff_iff];simp
  try omega
theorem vv:xw 120 vR:=by
 intro c w;rw[Jf];have hs:=qe c;cases e:zM c
 all_goals
  rw[e]at hs;clear e;go_enter Tryz.func120,Tryz.ntmps120
  go_wp2_with (go_at_call 115;refine(hs _).mono ?_;rintro e w' ⟨rfl,rfl⟩)
  all_goals
   go_ret
   refine⟨qb ?_,rfl⟩;rw[Bool.eq_iff_iff];simp
   try omega
theorem Kr:xw 137 zW:=by
 intro c w;unfold zW;have hs:=vv c;have hf:=zY c;generalize zl c=b at hf ⊢;cases e:vR c
 all_goals
  rw[e]at hs;clear e;go_enter Tryz.func137,Tryz.ntmps137
  go_wp2_with (first
   |(go_at_call 120;refine(hs _).mono ?_;rintro e w' ⟨rfl,rfl⟩)
   |(go_at_call 117;refine(hf _).mono ?_;rintro e w' ⟨rfl,rfl⟩))
  all_goals
   go_ret
   exact⟨qb (by simp),rfl⟩
theorem Uh:xw 139 zo:=by
 intro c w;rw[Y5];have hf:=zY c;cases e:zl c
 all_goals
  rw[e]at hf;clear e;go_enter Tryz.func139,Tryz.ntmps139
  go_wp2_with (go_at_call 117;refine(hf _).mono ?_;rintro e w' ⟨rfl,rfl⟩)
  all_goals
   go_ret
   refine⟨qb ?_,rfl⟩;rw[Bool.eq_iff_iff];simp
   try omega
abbrev pt(p:Nat):Value:= .pointer (some ⟨p,0,none⟩)
def bs(l:List UInt8):ByteArray:=⟨l.toArray⟩
theorem zs(l:List UInt8):(bs l).size=l.length:=by simp[bs,ByteArray.size]
theorem zA(l:List UInt8)(k:Nat)(h:k<(bs l).size):(bs l)[k]'h=l[k]'(by rw[zs]at h;exact h):=by simp[bs,ByteArray.getElem_eq_getElem_data]
theorem qq(l:List UInt8)(a b:Nat):(bs l).extract a b=bs ((l.drop a).take (b-a)):=ByteArray.extract_mk l a b
structure qD (w w':World) (P j:Nat):Prop where
 has:zi w' P 3 #[.int .i64 (j:Nat)]
 size:w'.heap.size=w.heap.size
 grown:w.grownBy w' (some P)
theorem qD.other{w w':World}{P j g t:Nat}{cs:Array Value}(h:qD w w' P j)(hg:zi w g t cs)(hne:g≠P):zi w' g t cs:=
 (h.grown.block g hg.lt (λe=>hne (by injection e))).trans hg
theorem qD.below{w w':World}{P j B:Nat}(h:qD w w' P j)(hB:B≤P)(hw:B≤w.heap.size):Below B w w':=
 ⟨h.grown.os,h.grown.tape,h.grown.output,h.grown.size,λk hk=>h.grown.block k (by omega) (λe=>by injection e;omega)⟩
theorem qD.refl{w:World}{P j:Nat}(h:zi w P 3 #[.int .i64 (j:Nat)]):qD w w P j:=⟨h,rfl,Vy _ _⟩
theorem qD.drewN{w w':World}{P j:Nat}(h:qD w w' P j)(m:Nat):qD w (w'.drewN m) P j:=⟨h.has.drewN m,h.size,⟨h.grown.os,h.grown.tape,h.grown.output,h.grown.size,h.grown.block⟩⟩
theorem qD.set{w w':World}{P j:Nat}(h:qD w w' P j)(k:Nat):qD w (w'.setCell ⟨P,0,none⟩ (.int .i64 (k:Nat))) P k:=by
 have hh:w'.heap[P]?=some (.cells #[.int .i64 (j:Nat)] 3 (0,0)):=h.has;refine⟨?_,?_,?_⟩
 ·show(w'.setCell ⟨P,0,none⟩ _).heap[P]?=_
  simp[World.setCell,Array.getElem?_modify,hh]
 ·simp[World.setCell,h.size]
 ·refine⟨h.grown.os,h.grown.tape,h.grown.output,by simp[World.setCell,h.grown.size],λg hg hne=>?_⟩
  rw[←h.grown.block g hg hne];exact Below.heap_setCell w' ⟨P,0,none⟩ _ g (λe=>hne (by rw[e]))
theorem qD.trans{w w' w'':World}{P j k:Nat}(h:qD w w' P j)(h':qD w' w'' P k):qD w w'' P k:=
 ⟨h'.has,h'.size.trans h.size,⟨h'.grown.os.trans h.grown.os,h'.grown.tape.trans h.grown.tape,h'.grown.output.trans h.grown.output,by rw[h'.size,h.size];exact Nat.le_refl _,λg hg hne=>(h'.grown.block g (by rw[h.size];exact hg) hne).trans (h.grown.block g hg hne)⟩⟩
def yT(w:World)(P:Nat)(l:List UInt8)(i n:Nat)(e:Ending)(w':World):Prop:=e= .returned (.string (bs ((l.drop i).take n)))∧qD w w' P (i+n)
theorem yz{p:UInt8→Bool}{l:List UInt8}{i k:Nat}(hk:k≤zv p (l.drop i))(h:i+k<l.length):k<zv p (l.drop i)↔p (l[i+k])=true:=by
 induction k generalizing i with
 |zero =>
  rw[List.drop_eq_getElem_cons (by omega),jf];simp only[Nat.add_zero]
  split<;>simp_all
 |succ k ih =>
  rw[List.drop_eq_getElem_cons (by omega),jf]at hk ⊢
  split at hk
  ·rename_i hp
   rw[if_pos hp];have:=ih (i:=i+1) (by omega) (by omega);have e:l[i+(k+1)]=l[i+1+k]:=by congr 1;omega
   rw[e];constructor
   ·intro hh;exact this.1 (by omega)
   ·intro hh;have:=this.2 hh;omega
  ·omega
theorem ym{p:UInt8→Bool}{l:List UInt8}{i k:Nat}(hk:k≤zv p (l.drop i))(h:¬i+k<l.length)(hi:i≤l.length):k=zv p (l.drop i):=by
 have:=jT p (l.drop i);rw[List.length_drop]at this;omega
theorem vr{p:UInt8→Bool}{l:List UInt8}{i k:Nat}(hk:k≤zv p (l.drop i))(h:i+k<l.length)(hp:p (l[i+k])=false):k=zv p (l.drop i):=by
 have:=(yz hk h)
 rw[hp]at this;simp at this;omega
theorem va{w wr:World}{P i k J n:Nat}{l:List UInt8}(hJ:J=i+k)(hn:k=n)(hm:qD w wr P (i+k)):yT w P l i n (.returned (.string ((bs l).extract i J))) wr:=by
 subst hJ hn;refine⟨?_,hm⟩;rw[qq,Nat.add_sub_cancel_left]
theorem yt{w wr:World}{P i k J:Nat}(hJ:J=i+k)(hm:qD w wr P (i+k)):qD w (wr.setCell ⟨P,0,none⟩ (.int .i64 ((J:Int)+1))) P (i+(k+1)):=by
 have:=hm.set (i+(k+1));rw[show((i+(k+1):Nat):Int)=(J:Int)+1 by omega]at this;exact this
def atP(wr:World)(P:Nat):Nat:=match wr.cell? ⟨P,0,none⟩with |some (.int _ z)=>z.toNat|_=>0
theorem VM{w wr:World}{P j:Nat}(hm:qD w wr P j):atP wr P=j:=by
 have :wr.cell? ⟨P,0,none⟩=some (.int .i64 (j:Nat)):=hm.has.cell 0;simp[atP,this]
theorem y5{w wr:World}{P i k J:Nat}{l:List UInt8}(hJ:J=i+k)(hm:qD w wr P (i+k))(h:J≤2000)(hlt:i+k<l.length)(hl:l.length≤2000):2000-atP (wr.setCell ⟨P,0,none⟩ (.int .i64 ((J:Int)+1))) P<2000-atP wr P:=by
 rw[VM hm,VM (yt hJ hm)];omega
theorem QN{w:World}{P Q S i:Nat}(l:List UInt8)(hP:zi w P 3 #[.int .i64 (i:Nat)])(hQ:zi w Q 149 #[pt P])(hS:zi w S 9 #[.string (bs l)])(hQP:Q≠P)(hSP:S≠P)(hi:i≤l.length)(hl:l.length≤2000):
 Calls Tryz.prog 135 #[.func (.func 112) #[] #[],pt Q,pt S] w (yT w P l i (zv qZ (l.drop i))):=by
 have hsz:=zs l;have p0:w.cell? ⟨P,0,none⟩=some (.int .i64 (i:Nat)):=hP.cell 0;have q0:w.cell? ⟨Q,0,none⟩=some (pt P):=hQ.cell 0;have hi2:i≤2000:=by omega
 have HS:Hid ((bs l).size=l.length):=hsz;clear hsz;go_enter Tryz.func135,Tryz.ntmps135
 go_wp2
 go_loopw [] (λwr=>∃k:Nat,k≤zv qZ (l.drop i)∧i+k≤l.length∧qD w wr P (i+k)) (λwr=>2000-atP wr P)
 case atStart=>exact⟨0,Nat.zero_le _,by omega,qD.refl hP⟩
 case round =>
  obtain⟨k,hk,hkl,hm⟩:=hrel;have p1:wr.cell? ⟨P,0,none⟩=some (.int .i64 ((i+k:Nat):Int)):=hm.has.cell 0;have q1:wr.cell? ⟨Q,0,none⟩=some (pt P):=(hm.other hQ hQP).cell 0;have s1:wr.cell? ⟨S,0,none⟩=some (.string (bs l)):=(hm.other hS hSP).cell 0;have f1:wr.frozen? ⟨P,0,none⟩=false:=hm.has.free 0
  obtain⟨J,hJ⟩:∃J,J=i+k:=⟨_,rfl⟩
  rw[←hJ]at p1;have HJ:Hid (J=i+k):=hJ;clear hJ p0 q0;have hJ2:J≤2000:=by have:=HJ.out;omega
  by_cases hlt:i+k<l.length
  ·have h1:J<(bs l).size:=by rw[HS.out,HJ.out];exact hlt
   have h2:((J:Nat):Int)<((bs l).size:Int):=by omega
   have hget:(bs l)[J]'h1=l[i+k]:=by rw[zA];simp only[HJ.out]
   have ht:=λW=>Yd ((bs l)[J]'h1) W
   cases hc:qZ (l[i+k])
   ·have hb:qZ ((bs l)[J]'h1)=false:=by rw[hget];exact hc
    rw[hb]at ht;have hn:=vr hk hlt hc;have HN:Hid (k=zv qZ (l.drop i)):=hn;clear hn hb hget hc;have b1:((i:Nat):Int)≤((J:Nat):Int):=by have:=HJ.out;omega
    have b2:((J:Nat):Int)≤((bs l).size:Int):=by omega
    go_wp2_with fail
    go_quiet ((go_at_call 112;exact Calls.quiet_of_same (ht _)))
    go_wp2
    go_quiet (fail)
    go_wp2
    go_ret
    exact va HJ.out HN.out ((hm.drewN _).drewN _)
   ·have hb:qZ ((bs l)[J]'h1)=true:=by rw[hget];exact hc
    rw[hb]at ht;have hn:=(yz hk hlt).2 hc;clear hb hget hc
    go_wp2_with fail
    go_quiet ((go_at_call 112;exact Calls.quiet_of_same (ht _)))
    go_wp2
    go_roundw
    case rel=>exact⟨k+1,hn,by omega,yt HJ.out (hm.drewN _)⟩
    case measure=>exact y5 HJ.out (hm.drewN _) hJ2 hlt hl
  ·have h1:decide (J<(bs l).size)=false:=by rw[decide_eq_false_iff_not,HS.out,HJ.out];omega
   have h2:decide (((J:Nat):Int)<((bs l).size:Int))=false:=by rw[decide_eq_false_iff_not,HS.out,HJ.out];omega
   have hn:=ym hk hlt hi;have HN:Hid (k=zv qZ (l.drop i)):=hn;have b1:((i:Nat):Int)≤((J:Nat):Int):=by have:=HJ.out;omega
   have b2:((J:Nat):Int)≤((bs l).size:Int):=by rw[HS.out,HJ.out];omega
   clear hn
   go_wp2_with fail
   go_quiet (fail)
   go_wp2
   go_quiet (fail)
   go_wp2
   go_ret
   exact va HJ.out HN.out ((hm.drewN _).drewN _)
theorem Um{w:World}{P Q S i:Nat}(l:List UInt8)(hP:zi w P 3 #[.int .i64 (i:Nat)])(hQ:zi w Q 149 #[pt P])(hS:zi w S 9 #[.string (bs l)])(hQP:Q≠P)(hSP:S≠P)(hi:i≤l.length)(hl:l.length≤2000):
 Calls Tryz.prog 135 #[.func (.func 114) #[] #[],pt Q,pt S] w (yT w P l i (zv qC (l.drop i))):=by
 have hsz:=zs l;have p0:w.cell? ⟨P,0,none⟩=some (.int .i64 (i:Nat)):=hP.cell 0;have q0:w.cell? ⟨Q,0,none⟩=some (pt P):=hQ.cell 0;have hi2:i≤2000:=by omega
 have HS:Hid ((bs l).size=l.length):=hsz;clear hsz;go_enter Tryz.func135,Tryz.ntmps135
 go_wp2
 go_loopw [] (λwr=>∃k:Nat,k≤zv qC (l.drop i)∧i+k≤l.length∧qD w wr P (i+k)) (λwr=>2000-atP wr P)
 case atStart=>exact⟨0,Nat.zero_le _,by omega,qD.refl hP⟩
 case round =>
  obtain⟨k,hk,hkl,hm⟩:=hrel;have p1:wr.cell? ⟨P,0,none⟩=some (.int .i64 ((i+k:Nat):Int)):=hm.has.cell 0;have q1:wr.cell? ⟨Q,0,none⟩=some (pt P):=(hm.other hQ hQP).cell 0;have s1:wr.cell? ⟨S,0,none⟩=some (.string (bs l)):=(hm.other hS hSP).cell 0;have f1:wr.frozen? ⟨P,0,none⟩=false:=hm.has.free 0
  obtain⟨J,hJ⟩:∃J,J=i+k:=⟨_,rfl⟩
  rw[←hJ]at p1;have HJ:Hid (J=i+k):=hJ;clear hJ p0 q0;have hJ2:J≤2000:=by have:=HJ.out;omega
  by_cases hlt:i+k<l.length
  ·have h1:J<(bs l).size:=by rw[HS.out,HJ.out];exact hlt
   have h2:((J:Nat):Int)<((bs l).size:Int):=by omega
   have hget:(bs l)[J]'h1=l[i+k]:=by rw[zA];simp only[HJ.out]
   have ht:=λW=>Xp ((bs l)[J]'h1) W
   cases hc:qC (l[i+k])
   ·have hb:qC ((bs l)[J]'h1)=false:=by rw[hget];exact hc
    rw[hb]at ht;have hn:=vr hk hlt hc;have HN:Hid (k=zv qC (l.drop i)):=hn;clear hn hb hget hc;have b1:((i:Nat):Int)≤((J:Nat):Int):=by have:=HJ.out;omega
    have b2:((J:Nat):Int)≤((bs l).size:Int):=by omega
    go_wp2_with fail
    go_quiet ((go_at_call 114;exact Calls.quiet_of_same (ht _)))
    go_wp2
    go_quiet (fail)
    go_wp2
    go_ret
    exact va HJ.out HN.out ((hm.drewN _).drewN _)
   ·have hb:qC ((bs l)[J]'h1)=true:=by rw[hget];exact hc
    rw[hb]at ht;have hn:=(yz hk hlt).2 hc;clear hb hget hc
    go_wp2_with fail
    go_quiet ((go_at_call 114;exact Calls.quiet_of_same (ht _)))
    go_wp2
    go_roundw
    case rel=>exact⟨k+1,hn,by omega,yt HJ.out (hm.drewN _)⟩
    case measure=>exact y5 HJ.out (hm.drewN _) hJ2 hlt hl
  ·have h1:decide (J<(bs l).size)=false:=by rw[decide_eq_false_iff_not,HS.out,HJ.out];omega
   have h2:decide (((J:Nat):Int)<((bs l).size:Int))=false:=by rw[decide_eq_false_iff_not,HS.out,HJ.out];omega
   have hn:=ym hk hlt hi;have HN:Hid (k=zv qC (l.drop i)):=hn;have b1:((i:Nat):Int)≤((J:Nat):Int):=by have:=HJ.out;omega
   have b2:((J:Nat):Int)≤((bs l).size:Int):=by rw[HS.out,HJ.out];omega
   clear hn
   go_wp2_with fail
   go_quiet (fail)
   go_wp2
   go_quiet (fail)
   go_wp2
   go_ret
   exact va HJ.out HN.out ((hm.drewN _).drewN _)
end
section
def j7(x:List UInt8):Bool:=x.take 2== [47,47]
theorem J1(x:List UInt8):qK false x=zv qZ x+qK false (x.drop (zv qZ x)):=by
 induction x with
 |nil=>rfl
 |cons c t ih =>
  rw[jf];by_cases h:qZ c=true
  ·rw[if_pos h,List.drop_succ_cons]
   simp only[qK,if_pos h];omega
  ·rw[if_neg h]
   simp
theorem GH(x:List UInt8):qK true x=zv qC x+qK false (x.drop (zv qC x)):=by
 induction x with
 |nil=>rfl
 |cons c t ih =>
  rw[jf];by_cases h:qC c=true
  ·have hc:(c==10)=false:=by simpa [qC]using h
   rw[if_pos h,List.drop_succ_cons];simp only[qK,hc];simp;omega
  ·have hc:(c==10)=true:=by simpa [qC]using h
   have hc':=eq_of_beq hc;subst hc';simp[qK,qC,qZ]
theorem Y0(p:UInt8→Bool)(x:List UInt8):zv p (x.drop (zv p x))=0:=by
 induction x with
 |nil=>rfl
 |cons c t ih =>
  rw[jf];by_cases h:p c=true
  ·rw[if_pos h,List.drop_succ_cons];exact ih
  ·rw[if_neg h,List.drop_zero,jf,if_neg h]
theorem gS{x:List UInt8}(h:j7 x=true):∃t,x=47::47::t:=by
 match x,h with
 | [],h=>cases h
 | [a],h=>simp[j7]at h
 |a::b::t,h=>simp[j7]at h;exact⟨t,by rw[h.1,h.2]⟩
theorem Zn{x:List UInt8}(h:j7 x=true):qK false x=zv qC x+qK false (x.drop (zv qC x))∧2≤zv qC x:=by
 obtain⟨t,rfl⟩:=gS h;constructor
 ·rw[←GH]
  simp[qK,qZ]
 ·rw[jf,jf]
  simp[qC]
theorem Xb{x:List UInt8}(h:zv qZ x=0)(hn:j7 x=false):qK false x=0:=by
 match x,h,hn with
 | [],_,_=>rfl
 |c::t,h,hn =>
  have hb:qZ c=false:=by
   rw[jf]at h;cases e:qZ c
   ·rfl
   ·rw[e]at h;simp at h
  simp only[qK,hb]
  have :(c==47&&t.head?==some 47)=false:=by
   cases t with
   |nil=>simp
   |cons d u =>
    simp[j7]at hn;simp;exact hn
  simp[this]
end
section
open Go.ChangeShapes Go.WideShapes Go.ChangeAt Go.RowKit
theorem kA{f:FuncId}{args:Array Value}{w:World}{R:Ending→World→Prop}(i:Nat)(v:Value)(h:args[i]?=some v)(k:Calls Tryz.prog f args w R):Calls Tryz.prog f args w R:=k
theorem DG(fn:Fn)(first cap:Array Value)(w:World):(Instr.makeFunc fn first cap).run Tryz.prog w= .ok (.func fn first cap) w:=rfl
theorem qQ(w:World)(s:ByteArray)(P:Nat):Calls Tryz.prog 111 #[.string s,pt P] w λe w'=>e= .returned (.func (.func 135) #[] #[pt (w.heap.size+1),pt w.heap.size])∧w'=(w.alloc (.cells #[.string s] 9)).alloc (.cells #[pt P] 149):=by
 have h0:=DG;go_enter Tryz.func111,Tryz.ntmps111
 go_wp2
 go_ret
 exact⟨rfl,rfl⟩
theorem zp(x:List UInt8):(bs x).toList=x:=ByteArray.toList_mk x
theorem Jg(x:List UInt8)(w:World)(hx:x.length≤2000):Calls Tryz.prog 136 #[.string (bs x),.string ⟨#[47,47]⟩] w λe w'=>e= .returned (.bool (j7 x))∧w'=w:=by
 have hs:=zs x;by_cases h2:2≤x.length
 ·have h3:(2:Int)≤((bs x).size:Int):=by omega
  have HS:Hid ((bs x).size=x.length):=hs;clear hs;go_enter Tryz.func136,Tryz.ntmps136
  go_wp2
  go_ret
  refine⟨qb ?_,rfl⟩;rw[qq,zp];rfl
 ·have h3:¬(2:Int)≤((bs x).size:Int):=by omega
  have HS:Hid ((bs x).size=x.length):=hs;clear hs;go_enter Tryz.func136,Tryz.ntmps136
  go_wp2
  go_ret
  refine⟨qb ?_,rfl⟩;unfold j7;rw[List.take_of_length_le (by omega)]
  cases e:(x== [47,47])
  ·rfl
  ·rw[eq_of_beq e]at h2;simp at h2
theorem Ya(x:List UInt8)(w:World)(hx:x.length≤2000):Calls Tryz.prog 113 #[.string (bs x),.string ⟨#[47,47]⟩] w λe w'=>e= .returned (.bool (j7 x))∧w'=w:=by
 go_enter Tryz.func113,Tryz.ntmps113
 go_wp2_with (go_at_call 136;refine(Jg _ _ hx).mono ?_;rintro e w' ⟨rfl,rfl⟩)
 go_ret
 exact⟨rfl,rfl⟩
structure Xk (w0 w:World) (P Q S j:Nat) (l:List UInt8):Prop where
 at_:zi w P 3 #[.int .i64 (j:Nat)]
 q:zi w Q 149 #[pt P]
 s:zi w S 9 #[.string (bs l)]
 qp:Q≠P
 sp:S≠P
 le:j≤l.length
 below:Below w0.heap.size w0 w
 old:w0.heap.size≤P
theorem Xk.moved{w0 w w':World}{P Q S j k:Nat}{l:List UInt8}(h:Xk w0 w P Q S j l)(hm:qD w w' P k)(hk:k≤l.length):Xk w0 w' P Q S k l:=
 ⟨hm.has,hm.other h.q h.qp,hm.other h.s h.sp,h.qp,h.sp,hk,h.below.trans (hm.below h.old (by have:=h.below.size;omega)),h.old⟩
theorem Xk.atP{w0 w:World}{P Q S j:Nat}{l:List UInt8}(h:Xk w0 w P Q S j l):atP w P=j:=VM (qD.refl h.at_)
theorem yJ{l:List UInt8}{p:UInt8→Bool}{j:Nat}(h:j≤l.length):j+zv p (l.drop j)≤l.length:=by
 have:=jT p (l.drop j);rw[List.length_drop]at this;omega
theorem Fa(l:List UInt8)(j:Nat):(bs l).extract j (bs l).size=bs (l.drop j):=by
 rw[qq,zs,List.take_of_length_le (by rw[List.length_drop];omega)]
def Zd(w wr:World)(P Q S i j:Nat)(l:List UInt8):Prop:=Xk w wr P Q S j l∧i≤j∧i+qK false (l.drop i)=j+qK false (l.drop j)∧zv qZ (l.drop j)=0
theorem Zd.first{w W0 wr:World}{P Q S i:Nat}{l:List UInt8}(h:Xk w W0 P Q S i l)(hm:qD W0 wr P (i+zv qZ (l.drop i))):Zd w wr P Q S i (i+zv qZ (l.drop i)) l:=by
 refine⟨h.moved hm (yJ h.le),by omega,?_,?_⟩
 ·have:=J1 (l.drop i)
  rw[List.drop_drop]at this;omega
 ·rw[←List.drop_drop]
  exact Y0 _ _
theorem Zd.next{w wr w1 w2:World}{P Q S i j:Nat}{l:List UInt8}(h:Zd w wr P Q S i j l)(hn:j7 (l.drop j)=true)(hm:qD wr w1 P (j+zv qC (l.drop j)))
 (hm2:qD w1 w2 P (j+zv qC (l.drop j)+zv qZ (l.drop (j+zv qC (l.drop j))))):Zd w w2 P Q S i (j+zv qC (l.drop j)+zv qZ (l.drop (j+zv qC (l.drop j)))) l:=by
 obtain⟨hC,h1,h2,h3⟩:=h;have hle:=yJ (p:=qC) hC.le;refine⟨(hC.moved hm hle).moved hm2 (yJ hle),by omega,?_,?_⟩
 ·have e1:=(Zn hn).1
  have e2:=J1 (l.drop (j+zv qC (l.drop j)));rw[List.drop_drop]at e1 e2;omega
 ·rw[←List.drop_drop]
  exact Y0 _ _
theorem Yw(w:World)(l:List UInt8)(i:Nat)(hi:i≤l.length)(hl:l.length≤2000):Calls Tryz.prog 101 #[.string (bs l),.int .i64 (i:Nat)] w λe w'=>e= .returned (.int .i64 ((i+qK false (l.drop i):Nat):Int))∧Below w.heap.size w w':=by
 have hsz:=zs l;have HS:Hid ((bs l).size=l.length):=hsz;clear hsz
 have hC:Xk w (((w.alloc (.cells #[.int .i64 (i:Nat)] 3)).alloc (.cells #[.string (bs l)] 9)).alloc (.cells #[pt w.heap.size] 149)) w.heap.size (w.heap.size+1+1) (w.heap.size+1) i l:=
  ⟨((zi.new _ _ _).alloc _).alloc _,zi.new_at (by simp),(zi.new_at (by simp)).alloc _,by omega,by omega,hi,(((Below.refl _ _).alloc (Nat.le_refl _) _).alloc (by simp) _).alloc (by simp;omega) _,Nat.le_refl _⟩
 have ht:=QN l hC.at_ hC.q hC.s hC.qp hC.sp hC.le hl;go_enter Tryz.func101,Tryz.ntmps101
 go_wp2_with (first
  |(go_at_call 111;refine(qQ _ _ _).mono ?_;rintro e w' ⟨rfl,rfl⟩)
  |(go_at_call 135;refine ht.mono ?_;rintro e w1 ⟨rfl,hm⟩))
 have hA:=Zd.first hC hm;clear hm hC ht
 go_loopw [] (λwr=>∃j,Zd w wr w.heap.size (w.heap.size+1+1) (w.heap.size+1) i j l) (λwr=>2000-atP wr w.heap.size)
 case atStart=>exact⟨_,hA⟩
 case round =>
  clear hA;obtain⟨j,hA⟩:=hrel;have hC:=hA.1;have p1:wr.cell? ⟨w.heap.size,0,none⟩=some (.int .i64 (j:Nat)):=hC.at_.cell 0;have hj2:j≤2000:=by have:=hC.le;omega
  have b2:((j:Nat):Int)≤((bs l).size:Int):=by rw[HS.out];have:=hC.le;omega
  have hp:=λW=>Ya (l.drop j) W (by rw[List.length_drop];omega)
  rw[←Fa]at hp;cases hn:j7 (l.drop j)
  ·rw[hn]at hp
   have hz:=Xb hA.2.2.2 hn;have HE:Hid (i+qK false (l.drop i)=j):=by have:=hA.2.2.1;rw[hz]at this;exact this
   have hB:=hC.below;clear hz hn hA hC
   go_wp2_with (go_at_call 113;refine(hp _).mono ?_;rintro e w' ⟨rfl,rfl⟩)
   go_ret
   exact⟨by rw[HE.out];rfl,hB⟩
  ·rw[hn]at hp
   have hn2:=(Zn hn).2;have ht1:=Um l hC.at_ hC.q hC.s hC.qp hC.sp hC.le hl
   obtain⟨J,hJ⟩:∃J,J=j+zv qC (l.drop j):=⟨_,rfl⟩
   have HJ:Hid (J=j+zv qC (l.drop j)):=hJ;clear hJ;have HN:Hid (j7 (l.drop j)=true):=hn;clear hn
   go_wp2_with (first
    |(go_at_call 113;refine(hp _).mono ?_;rintro e w' ⟨rfl,rfl⟩)
    |(go_at_call 135
      refine kA 0 (.func (.func 114) #[] #[]) rfl ?_;refine ht1.mono ?_
      rintro e w1 ⟨rfl,hm1⟩)
    |(go_at_call 135
      refine kA 0 (.func (.func 112) #[] #[]) rfl ?_;have hle:=yJ (p:=qC) hC.le;have hC1:=hC.moved hm1 hle;refine(QN l hC1.at_ hC1.q hC1.s hC1.qp hC1.sp hC1.le hl).mono ?_
      rintro e w2 ⟨rfl,hm2⟩))
   go_roundw
   case rel=>exact⟨_,hA.next HN.out hm1 hm2⟩
   case measure =>
    rw[hC.atP,VM hm2];have:=yJ (p:=qZ) (yJ (p:=qC) hC.le);omega
theorem Yu(w:World)(x:List UInt8):∃W1 cap,(convert 9 45 (.string (bs x))).run Tryz.prog w= .ok (.slice (some ⟨w.heap.size,0,none⟩) (bs x).size cap) W1∧(∀j (hj:j<x.length),W1.cell? ⟨w.heap.size,j,none⟩=some (.int .u8 (x[j].toNat:Int)))∧Below w.heap.size w W1:=by
 refine⟨_,_,run_bytes_of_string w 9 45 5 (bs x) Tryz.underlying9 Tryz.underlying45 Tryz.underlying5,?_,?_⟩
 ·intro j hj
  have hh:=heap_alloc_new w.drew (.cells (bytesRow (bs x) (grownCap w (bs x).size 0 5)) 5 ((bytesRow (bs x) (grownCap w (bs x).size 0 5)).size,(bytesRow (bs x) (grownCap w (bs x).size 0 5)).size+1));refine(cell_of_row _ _ _ _ _ _ hh).trans ?_;unfold bytesRow;rw[Array.getElem?_append_left (by simp[bs];exact hj)];simp[bs,hj]
 ·exact((⟨rfl,rfl,rfl,Nat.le_refl _,λ_ _=>rfl⟩:Below w.heap.size w w.drew)).alloc (Nat.le_refl _) _
theorem Gb(x:List UInt8)(k:Nat)(h:k<x.length):val (x.take (k+1))=10*val (x.take k)+(x[k].toNat-48):=by
 rw[List.take_succ_eq_append_getElem h,QP]
theorem gK(x:List UInt8)(w:World)(h0:x≠ [])(h9:x.length≤9)(hf:∀c ∈ x,zl c=true):
 Calls Tryz.prog 149 #[.string (bs x)] w λe w'=>e= .returned (.tuple #[.int .i64 (val x:Nat),.nilIface])∧Below w.heap.size w w':=by
 have hsz:=zs x;have hpos:0<x.length:=List.length_pos_iff.2 h0;obtain⟨W1,cap,hconv,hcell,hbel⟩:=Yu w x
 have hfig:∀j (hj:j<x.length),48≤((x[j].toNat:Nat):Int)∧((x[j].toNat:Nat):Int)≤57:=by
  intro j hj;have:=hf x[j] (List.getElem_mem hj);simp[zl]at this;omega
 have hx0:(0:Nat)<(bs x).size:=by omega
 have hg0:(bs x)[0]'hx0=x[0]:=zA x 0 hx0;have hf0:48≤((((bs x)[0]'hx0).toNat:Nat):Int)∧((((bs x)[0]'hx0).toNat:Nat):Int)≤57:=by rw[hg0];exact hfig 0 hpos
 have z1:(((((bs x)[0]'hx0).toNat:Nat):Int)==45)=false:=by simp;omega
 have z2:(((((bs x)[0]'hx0).toNat:Nat):Int)==43)=false:=by simp;omega
 have z5:¬((((bs x)[0]'hx0).toNat:Nat):Int)=45:=by omega
 have z3:(0:Int)<((bs x).size:Int):=by omega
 have z4:((bs x).size:Int)<19:=by omega
 have HS:Hid ((bs x).size=x.length):=hsz;clear hsz hg0 hf0;go_enter Tryz.func149,Tryz.ntmps149
 go_wp2
 go_loop [6,49] (λn i=>∃k:Nat,k≤x.length∧i= .int .i64 (k:Nat)∧n= .int .i64 (val (x.take k):Nat)) (λ_ i=>x.length-(intOf i).toNat)
 case atStart=>exact⟨0,Nat.zero_le _,rfl,rfl⟩
 case round =>
  obtain⟨k,hk,rfl,rfl⟩:=hrel
  have hvb:val (x.take k)<1000000000:=by
   have h1:=Qb (x.take k) (λc hc=>hf c (List.mem_of_mem_take hc));have h2:10 ^ (x.take k).length≤10 ^ 9:=Nat.pow_le_pow_right (by decide) (by rw[List.length_take];omega);exact Nat.lt_of_lt_of_le h1 h2
  obtain⟨V,hV⟩:∃V,V=val (x.take k):=⟨_,rfl⟩
  rw[←hV]at hvb ⊢;by_cases hlt:k<x.length
  ·have hc:=hcell k hlt
   have hfk:=hfig k hlt;have hvt:=Gb x k hlt;rw[←hV]at hvt;have e1:((x[k].toNat-48:Nat):Int)=(x[k].toNat:Int)-48:=by omega
   have HV:Hid (((val (x.take (k+1)):Nat):Int)=10*(V:Int)+((x[k].toNat:Int)-48)):=by show((val (x.take (k+1)):Nat):Int)=_;rw[hvt];omega
   have hlt2:((k:Nat):Int)<((bs x).size:Int):=by rw[HS.out];omega
   clear hvt e1 hV;generalize ((x[k].toNat:Nat):Int)=z at hc hfk HV;obtain⟨g1,g2⟩:=hfk;clear hcell hfig hconv
   go_wp2
   go_round
   case rel=>exact⟨k+1,by omega,by go_num,by rw[HV.out];go_num⟩
   case measure=>simp[intOf];omega
  ·have hlt2:¬((k:Nat):Int)<((bs x).size:Int):=by rw[HS.out];omega
   have hfull:x.take k=x:=List.take_of_length_le (by omega);rw[hfull]at hV;have HV:Hid (V=val x):=hV;clear hfull hV hcell hfig hconv
   go_wp2
   go_ret2
   exact⟨by rw[HV.out];rfl,hbel⟩
theorem fv(x:List UInt8)(w:World)(h0:x≠ [])(h9:x.length≤9)(hf:∀c ∈ x,zl c=true):
 Calls Tryz.prog 138 #[.string (bs x)] w λe w'=>e= .returned (.tuple #[.int .i64 (val x:Nat),.nilIface])∧Below w.heap.size w w':=by
 have ha:=gK x w h0 h9 hf;go_enter Tryz.func138,Tryz.ntmps138
 go_wp2_with (go_at_call 149;refine ha.mono ?_;rintro e w' ⟨rfl,hb⟩)
 go_ret2
 exact⟨rfl,hb⟩
theorem Va{w:World}{P Q S i:Nat}(l:List UInt8)(hP:zi w P 3 #[.int .i64 (i:Nat)])(hQ:zi w Q 149 #[pt P])(hS:zi w S 9 #[.string (bs l)])(hQP:Q≠P)(hSP:S≠P)(hi:i≤l.length)(hl:l.length≤2000):
 Calls Tryz.prog 135 #[.func (.func 137) #[] #[],pt Q,pt S] w (yT w P l i (zv zW (l.drop i))):=by
 have hsz:=zs l;have p0:w.cell? ⟨P,0,none⟩=some (.int .i64 (i:Nat)):=hP.cell 0;have q0:w.cell? ⟨Q,0,none⟩=some (pt P):=hQ.cell 0;have hi2:i≤2000:=by omega
 have HS:Hid ((bs l).size=l.length):=hsz;clear hsz;go_enter Tryz.func135,Tryz.ntmps135
 go_wp2
 go_loopw [] (λwr=>∃k:Nat,k≤zv zW (l.drop i)∧i+k≤l.length∧qD w wr P (i+k)) (λwr=>2000-atP wr P)
 case atStart=>exact⟨0,Nat.zero_le _,by omega,qD.refl hP⟩
 case round =>
  obtain⟨k,hk,hkl,hm⟩:=hrel;have p1:wr.cell? ⟨P,0,none⟩=some (.int .i64 ((i+k:Nat):Int)):=hm.has.cell 0;have q1:wr.cell? ⟨Q,0,none⟩=some (pt P):=(hm.other hQ hQP).cell 0;have s1:wr.cell? ⟨S,0,none⟩=some (.string (bs l)):=(hm.other hS hSP).cell 0;have f1:wr.frozen? ⟨P,0,none⟩=false:=hm.has.free 0
  obtain⟨J,hJ⟩:∃J,J=i+k:=⟨_,rfl⟩
  rw[←hJ]at p1;have HJ:Hid (J=i+k):=hJ;clear hJ p0 q0;have hJ2:J≤2000:=by have:=HJ.out;omega
  by_cases hlt:i+k<l.length
  ·have h1:J<(bs l).size:=by rw[HS.out,HJ.out];exact hlt
   have h2:((J:Nat):Int)<((bs l).size:Int):=by omega
   have hget:(bs l)[J]'h1=l[i+k]:=by rw[zA];simp only[HJ.out]
   have ht:=λW=>Kr ((bs l)[J]'h1) W
   cases hc:zW (l[i+k])
   ·have hb:zW ((bs l)[J]'h1)=false:=by rw[hget];exact hc
    rw[hb]at ht;have hn:=vr hk hlt hc;have HN:Hid (k=zv zW (l.drop i)):=hn;clear hn hb hget hc;have b1:((i:Nat):Int)≤((J:Nat):Int):=by have:=HJ.out;omega
    have b2:((J:Nat):Int)≤((bs l).size:Int):=by omega
    go_wp2_with fail
    go_quiet ((go_at_call 137;exact Calls.quiet_of_same (ht _)))
    go_wp2
    go_quiet (fail)
    go_wp2
    go_ret
    exact va HJ.out HN.out ((hm.drewN _).drewN _)
   ·have hb:zW ((bs l)[J]'h1)=true:=by rw[hget];exact hc
    rw[hb]at ht;have hn:=(yz hk hlt).2 hc;clear hb hget hc
    go_wp2_with fail
    go_quiet ((go_at_call 137;exact Calls.quiet_of_same (ht _)))
    go_wp2
    go_roundw
    case rel=>exact⟨k+1,hn,by omega,yt HJ.out (hm.drewN _)⟩
    case measure=>exact y5 HJ.out (hm.drewN _) hJ2 hlt hl
  ·have h1:decide (J<(bs l).size)=false:=by rw[decide_eq_false_iff_not,HS.out,HJ.out];omega
   have h2:decide (((J:Nat):Int)<((bs l).size:Int))=false:=by rw[decide_eq_false_iff_not,HS.out,HJ.out];omega
   have hn:=ym hk hlt hi;have HN:Hid (k=zv zW (l.drop i)):=hn;have b1:((i:Nat):Int)≤((J:Nat):Int):=by have:=HJ.out;omega
   have b2:((J:Nat):Int)≤((bs l).size:Int):=by rw[HS.out,HJ.out];omega
   clear hn
   go_wp2_with fail
   go_quiet (fail)
   go_wp2
   go_quiet (fail)
   go_wp2
   go_ret
   exact va HJ.out HN.out ((hm.drewN _).drewN _)
theorem Qt{w:World}{P Q S i:Nat}(l:List UInt8)(hP:zi w P 3 #[.int .i64 (i:Nat)])(hQ:zi w Q 149 #[pt P])(hS:zi w S 9 #[.string (bs l)])(hQP:Q≠P)(hSP:S≠P)(hi:i≤l.length)(hl:l.length≤2000):
 Calls Tryz.prog 135 #[.func (.func 117) #[] #[],pt Q,pt S] w (yT w P l i (zv zl (l.drop i))):=by
 have hsz:=zs l;have p0:w.cell? ⟨P,0,none⟩=some (.int .i64 (i:Nat)):=hP.cell 0;have q0:w.cell? ⟨Q,0,none⟩=some (pt P):=hQ.cell 0;have hi2:i≤2000:=by omega
 have HS:Hid ((bs l).size=l.length):=hsz;clear hsz;go_enter Tryz.func135,Tryz.ntmps135
 go_wp2
 go_loopw [] (λwr=>∃k:Nat,k≤zv zl (l.drop i)∧i+k≤l.length∧qD w wr P (i+k)) (λwr=>2000-atP wr P)
 case atStart=>exact⟨0,Nat.zero_le _,by omega,qD.refl hP⟩
 case round =>
  obtain⟨k,hk,hkl,hm⟩:=hrel;have p1:wr.cell? ⟨P,0,none⟩=some (.int .i64 ((i+k:Nat):Int)):=hm.has.cell 0;have q1:wr.cell? ⟨Q,0,none⟩=some (pt P):=(hm.other hQ hQP).cell 0;have s1:wr.cell? ⟨S,0,none⟩=some (.string (bs l)):=(hm.other hS hSP).cell 0;have f1:wr.frozen? ⟨P,0,none⟩=false:=hm.has.free 0
  obtain⟨J,hJ⟩:∃J,J=i+k:=⟨_,rfl⟩
  rw[←hJ]at p1;have HJ:Hid (J=i+k):=hJ;clear hJ p0 q0;have hJ2:J≤2000:=by have:=HJ.out;omega
  by_cases hlt:i+k<l.length
  ·have h1:J<(bs l).size:=by rw[HS.out,HJ.out];exact hlt
   have h2:((J:Nat):Int)<((bs l).size:Int):=by omega
   have hget:(bs l)[J]'h1=l[i+k]:=by rw[zA];simp only[HJ.out]
   have ht:=λW=>zY ((bs l)[J]'h1) W
   cases hc:zl (l[i+k])
   ·have hb:zl ((bs l)[J]'h1)=false:=by rw[hget];exact hc
    rw[hb]at ht;have hn:=vr hk hlt hc;have HN:Hid (k=zv zl (l.drop i)):=hn;clear hn hb hget hc;have b1:((i:Nat):Int)≤((J:Nat):Int):=by have:=HJ.out;omega
    have b2:((J:Nat):Int)≤((bs l).size:Int):=by omega
    go_wp2_with fail
    go_quiet ((go_at_call 117;exact Calls.quiet_of_same (ht _)))
    go_wp2
    go_quiet (fail)
    go_wp2
    go_ret
    exact va HJ.out HN.out ((hm.drewN _).drewN _)
   ·have hb:zl ((bs l)[J]'h1)=true:=by rw[hget];exact hc
    rw[hb]at ht;have hn:=(yz hk hlt).2 hc;clear hb hget hc
    go_wp2_with fail
    go_quiet ((go_at_call 117;exact Calls.quiet_of_same (ht _)))
    go_wp2
    go_roundw
    case rel=>exact⟨k+1,hn,by omega,yt HJ.out (hm.drewN _)⟩
    case measure=>exact y5 HJ.out (hm.drewN _) hJ2 hlt hl
  ·have h1:decide (J<(bs l).size)=false:=by rw[decide_eq_false_iff_not,HS.out,HJ.out];omega
   have h2:decide (((J:Nat):Int)<((bs l).size:Int))=false:=by rw[decide_eq_false_iff_not,HS.out,HJ.out];omega
   have hn:=ym hk hlt hi;have HN:Hid (k=zv zl (l.drop i)):=hn;have b1:((i:Nat):Int)≤((J:Nat):Int):=by have:=HJ.out;omega
   have b2:((J:Nat):Int)≤((bs l).size:Int):=by rw[HS.out,HJ.out];omega
   clear hn
   go_wp2_with fail
   go_quiet (fail)
   go_wp2
   go_quiet (fail)
   go_wp2
   go_ret
   exact va HJ.out HN.out ((hm.drewN _).drewN _)
theorem Jb{w:World}{P Q S i:Nat}(l:List UInt8)(hP:zi w P 3 #[.int .i64 (i:Nat)])(hQ:zi w Q 149 #[pt P])(hS:zi w S 9 #[.string (bs l)])(hQP:Q≠P)(hSP:S≠P)(hi:i≤l.length)(hl:l.length≤2000):
 Calls Tryz.prog 135 #[.func (.func 139) #[] #[],pt Q,pt S] w (yT w P l i (zv zo (l.drop i))):=by
 have hsz:=zs l;have p0:w.cell? ⟨P,0,none⟩=some (.int .i64 (i:Nat)):=hP.cell 0;have q0:w.cell? ⟨Q,0,none⟩=some (pt P):=hQ.cell 0;have hi2:i≤2000:=by omega
 have HS:Hid ((bs l).size=l.length):=hsz;clear hsz;go_enter Tryz.func135,Tryz.ntmps135
 go_wp2
 go_loopw [] (λwr=>∃k:Nat,k≤zv zo (l.drop i)∧i+k≤l.length∧qD w wr P (i+k)) (λwr=>2000-atP wr P)
 case atStart=>exact⟨0,Nat.zero_le _,by omega,qD.refl hP⟩
 case round =>
  obtain⟨k,hk,hkl,hm⟩:=hrel;have p1:wr.cell? ⟨P,0,none⟩=some (.int .i64 ((i+k:Nat):Int)):=hm.has.cell 0;have q1:wr.cell? ⟨Q,0,none⟩=some (pt P):=(hm.other hQ hQP).cell 0;have s1:wr.cell? ⟨S,0,none⟩=some (.string (bs l)):=(hm.other hS hSP).cell 0;have f1:wr.frozen? ⟨P,0,none⟩=false:=hm.has.free 0
  obtain⟨J,hJ⟩:∃J,J=i+k:=⟨_,rfl⟩
  rw[←hJ]at p1;have HJ:Hid (J=i+k):=hJ;clear hJ p0 q0;have hJ2:J≤2000:=by have:=HJ.out;omega
  by_cases hlt:i+k<l.length
  ·have h1:J<(bs l).size:=by rw[HS.out,HJ.out];exact hlt
   have h2:((J:Nat):Int)<((bs l).size:Int):=by omega
   have hget:(bs l)[J]'h1=l[i+k]:=by rw[zA];simp only[HJ.out]
   have ht:=λW=>Uh ((bs l)[J]'h1) W
   cases hc:zo (l[i+k])
   ·have hb:zo ((bs l)[J]'h1)=false:=by rw[hget];exact hc
    rw[hb]at ht;have hn:=vr hk hlt hc;have HN:Hid (k=zv zo (l.drop i)):=hn;clear hn hb hget hc;have b1:((i:Nat):Int)≤((J:Nat):Int):=by have:=HJ.out;omega
    have b2:((J:Nat):Int)≤((bs l).size:Int):=by omega
    go_wp2_with fail
    go_quiet ((go_at_call 139;exact Calls.quiet_of_same (ht _)))
    go_wp2
    go_quiet (fail)
    go_wp2
    go_ret
    exact va HJ.out HN.out ((hm.drewN _).drewN _)
   ·have hb:zo ((bs l)[J]'h1)=true:=by rw[hget];exact hc
    rw[hb]at ht;have hn:=(yz hk hlt).2 hc;clear hb hget hc
    go_wp2_with fail
    go_quiet ((go_at_call 139;exact Calls.quiet_of_same (ht _)))
    go_wp2
    go_roundw
    case rel=>exact⟨k+1,hn,by omega,yt HJ.out (hm.drewN _)⟩
    case measure=>exact y5 HJ.out (hm.drewN _) hJ2 hlt hl
  ·have h1:decide (J<(bs l).size)=false:=by rw[decide_eq_false_iff_not,HS.out,HJ.out];omega
   have h2:decide (((J:Nat):Int)<((bs l).size:Int))=false:=by rw[decide_eq_false_iff_not,HS.out,HJ.out];omega
   have hn:=ym hk hlt hi;have HN:Hid (k=zv zo (l.drop i)):=hn;have b1:((i:Nat):Int)≤((J:Nat):Int):=by have:=HJ.out;omega
   have b2:((J:Nat):Int)≤((bs l).size:Int):=by rw[HS.out,HJ.out];omega
   clear hn
   go_wp2_with fail
   go_quiet (fail)
   go_wp2
   go_quiet (fail)
   go_wp2
   go_ret
   exact va HJ.out HN.out ((hm.drewN _).drewN _)
def xH(w w':World)(P j:Nat):Prop:=∃w1,qD w w1 P j∧Below w1.heap.size w1 w'
theorem qD.after{w w':World}{P j:Nat}(h:qD w w' P j):xH w w' P j:=⟨w',h,Below.refl _ _⟩
theorem xH.at_{w w':World}{P j:Nat}(h:xH w w' P j):zi w' P 3 #[.int .i64 (j:Nat)]:=by
 obtain⟨w1,hm,hb⟩:=h;exact hm.has.below hb hm.has.lt
theorem xH.other{w w':World}{P j g t:Nat}{cs:Array Value}(h:xH w w' P j)(hg:zi w g t cs)(hne:g≠P):zi w' g t cs:=by
 obtain⟨w1,hm,hb⟩:=h;have:=hm.other hg hne;exact this.below hb this.lt
theorem xH.size{w w':World}{P j:Nat}(h:xH w w' P j):w.heap.size≤w'.heap.size:=by
 obtain⟨w1,hm,hb⟩:=h;rw[←hm.size];exact hb.size
theorem xH.below{w w':World}{P j B:Nat}(h:xH w w' P j)(hB:B≤P)(hw:B≤w.heap.size):Below B w w':=by
 obtain⟨w1,hm,hb⟩:=h;exact(hm.below hB hw).trans (hb.mono (by rw[hm.size];exact hw))
abbrev fT(Q S:Nat):Value:= .func (.func 135) #[] #[pt Q,pt S]
def XJ(w:World)(P j:Nat)(v:Value)(er:Int)(e:Ending)(w':World):Prop:=e= .returned (.tuple #[v,.int .i64 er])∧xH w w' P j
theorem Z1(l:List UInt8)(p:UInt8→Bool)(j:Nat):(bs ((l.drop j).take (zv p (l.drop j)))).size=zv p (l.drop j):=by
 rw[zs,List.length_take,Nat.min_eq_left (jT _ _)]
theorem Fx{w0 w:World}{P Q S j:Nat}{l:List UInt8}(hC:Xk w0 w P Q S j l)(hl:l.length≤2000)(h:¬16<zv zW (l.drop j)):
 Calls Tryz.prog 116 #[fT Q S] w (XJ w P (j+zv zW (l.drop j)) (.string (bs ((l.drop j).take (zv zW (l.drop j))))) 0):=by
 have ht:=Va l hC.at_ hC.q hC.s hC.qp hC.sp hC.le hl;unfold yT at ht;have hz:=Z1 l zW j;generalize (l.drop j).take (zv zW (l.drop j))=X at hz ht ⊢;have h1:¬(16:Int)<((bs X).size:Int):=by omega
 clear hz;go_enter Tryz.func116,Tryz.ntmps116
 go_wp2_with (go_at_call 135;refine ht.mono ?_;rintro e w1 ⟨rfl,hm⟩)
 go_ret2
 exact⟨rfl,hm.after⟩
theorem kK{w0 w:World}{P Q S j:Nat}{l:List UInt8}(hC:Xk w0 w P Q S j l)(hl:l.length≤2000)(h:16<zv zW (l.drop j)):
 Calls Tryz.prog 116 #[fT Q S] w (XJ w P (j+zv zW (l.drop j)) (.string (bs [])) 102):=by
 have ht:=Va l hC.at_ hC.q hC.s hC.qp hC.sp hC.le hl;unfold yT at ht;have hz:=Z1 l zW j;generalize (l.drop j).take (zv zW (l.drop j))=X at hz ht ⊢;have h1:(16:Int)<((bs X).size:Int):=by omega
 clear hz;go_enter Tryz.func116,Tryz.ntmps116
 go_wp2_with (go_at_call 135;refine ht.mono ?_;rintro e w1 ⟨rfl,hm⟩)
 go_ret2
 exact⟨rfl,hm.after⟩
theorem Z4{w0 w:World}{P Q S j:Nat}{l:List UInt8}(hC:Xk w0 w P Q S j l)(hl:l.length≤2000)(h:¬9<zv zl (l.drop j))(h0:zv zl (l.drop j)≠0):
 Calls Tryz.prog 118 #[fT Q S] w (XJ w P (j+zv zl (l.drop j)) (.int .i64 (val ((l.drop j).take (zv zl (l.drop j))):Nat)) 0):=by
 have ht:=Qt l hC.at_ hC.q hC.s hC.qp hC.sp hC.le hl;unfold yT at ht;have hz:=Z1 l zl j;have hfig:∀c ∈ (l.drop j).take (zv zl (l.drop j)),zl c=true:=ZO;generalize (l.drop j).take (zv zl (l.drop j))=X at hz ht hfig ⊢;have h1:¬(9:Int)<((bs X).size:Int):=by omega
 have h2:X≠ []:=by rintro rfl;rw[zs]at hz;exact h0 hz.symm
 have h3:X.length≤9:=by rw[zs]at hz;omega
 have ha:=λW=>fv X W h2 h3 hfig
 clear hz hfig h2 h3;go_enter Tryz.func118,Tryz.ntmps118
 go_wp2_with (first
  |(go_at_call 135;refine ht.mono ?_;rintro e w1 ⟨rfl,hm⟩)
  |(go_at_call 138;refine(ha _).mono ?_;rintro e w2 ⟨rfl,hb⟩))
 go_ret2
 exact⟨rfl,_,hm,hb⟩
theorem YU{w0 w:World}{P Q S j:Nat}{l:List UInt8}(hC:Xk w0 w P Q S j l)(hl:l.length≤2000)(h:9<zv zl (l.drop j)):
 Calls Tryz.prog 118 #[fT Q S] w (XJ w P (j+zv zl (l.drop j)) (.int .i64 0) 102):=by
 have ht:=Qt l hC.at_ hC.q hC.s hC.qp hC.sp hC.le hl;unfold yT at ht;have hz:=Z1 l zl j;generalize (l.drop j).take (zv zl (l.drop j))=X at hz ht ⊢;have h1:(9:Int)<((bs X).size:Int):=by omega
 clear hz;go_enter Tryz.func118,Tryz.ntmps118
 go_wp2_with (go_at_call 135;refine ht.mono ?_;rintro e w1 ⟨rfl,hm⟩)
 go_ret2
 exact⟨rfl,hm.after⟩
theorem U3{w0 w:World}{P Q S j:Nat}{l:List UInt8}(hC:Xk w0 w P Q S j l)(hl:l.length≤2000)(h:zv zo (l.drop j)=0):
 Calls Tryz.prog 119 #[fT Q S] w (XJ w P (j+zv zo (l.drop j)) (.string (bs [])) 101):=by
 have ht:=Jb l hC.at_ hC.q hC.s hC.qp hC.sp hC.le hl;unfold yT at ht;have hz:(l.drop j).take (zv zo (l.drop j))= []:=by rw[h];rfl
 rw[hz]at ht;have h1:(bs []).toList= []:=zp [];clear hz;generalize zv zo (l.drop j)=n at ht h ⊢;clear h;go_enter Tryz.func119,Tryz.ntmps119
 go_wp2_with (go_at_call 135;refine ht.mono ?_;rintro e w1 ⟨rfl,hm⟩)
 go_ret2
 exact⟨rfl,hm.after⟩
theorem uZ{w0 w:World}{P Q S j:Nat}{l:List UInt8}(hC:Xk w0 w P Q S j l)(hl:l.length≤2000)(h:128<zv zo (l.drop j)):
 Calls Tryz.prog 119 #[fT Q S] w (XJ w P (j+zv zo (l.drop j)) (.string (bs [])) 102):=by
 have ht:=Jb l hC.at_ hC.q hC.s hC.qp hC.sp hC.le hl;unfold yT at ht;have hz:=Z1 l zo j;generalize (l.drop j).take (zv zo (l.drop j))=X at hz ht ⊢;have h1:(128:Int)<((bs X).size:Int):=by omega
 have h2:((bs X).toList== [])=false:=by rw[zp];cases X with
  |nil=>rw[zs]at hz;simp at hz;omega
  |cons a b=>rfl
 clear hz;go_enter Tryz.func119,Tryz.ntmps119
 go_wp2_with (go_at_call 135;refine ht.mono ?_;rintro e w1 ⟨rfl,hm⟩)
 go_ret2
 exact⟨rfl,hm.after⟩
theorem XL{w0 w:World}{P Q S j:Nat}{l:List UInt8}(hC:Xk w0 w P Q S j l)(hl:l.length≤2000)(h0:zv zo (l.drop j)≠0)(h:¬128<zv zo (l.drop j)):
 Calls Tryz.prog 119 #[fT Q S] w (XJ w P (j+zv zo (l.drop j)) (.string (bs ((l.drop j).take (zv zo (l.drop j))))) 0):=by
 have ht:=Jb l hC.at_ hC.q hC.s hC.qp hC.sp hC.le hl;unfold yT at ht;have hz:=Z1 l zo j;generalize (l.drop j).take (zv zo (l.drop j))=X at hz ht ⊢;have h1:¬(128:Int)<((bs X).size:Int):=by omega
 have h2:((bs X).toList== [])=false:=by rw[zp];cases X with
  |nil=>rw[zs]at hz;simp at hz;omega
  |cons a b=>rfl
 clear hz;go_enter Tryz.func119,Tryz.ntmps119
 go_wp2_with (go_at_call 135;refine ht.mono ?_;rintro e w1 ⟨rfl,hm⟩)
 go_ret2
 exact⟨rfl,hm.after⟩
def jy(t:Tk)(p:Nat):Array Value:=#[.int .i64 (t.kind:Nat),.string (bs t.s),.int .i64 (t.n:Nat),.int .i64 (p:Nat)]
def jD(w:World)(i:Nat)(t:Tk)(E:Nat)(er:Int)(e:Ending)(w':World):Prop:=e= .returned (.tuple #[.agg (jy t i),.int .i64 (E:Nat),.int .i64 er])∧Below w.heap.size w w'
abbrev ur(w:World)(l:List UInt8)(i:Nat)(z k:Int):World:=
 ((((w.alloc (.cells #[.int .i64 0,.string ⟨#[]⟩,.int .i64 0,.int .i64 0] 79)).alloc (.cells #[.int .i64 k,.string ⟨#[]⟩,.int .i64 0,.int .i64 (i:Nat)] 79)).alloc (.cells #[.int .i64 z] 3)).alloc (.cells #[.string (bs l)] 9)).alloc (.cells #[pt (w.heap.size+1+1)] 149)
theorem jS(w:World)(l:List UInt8)(i j:Nat)(z k:Int)(hz:z=(j:Nat))(hj:j≤l.length):Xk w (ur w l i z k) (w.heap.size+1+1) (w.heap.size+1+1+1+1) (w.heap.size+1+1+1) j l:=by
 subst hz;exact⟨((zi.new_at (by simp)).alloc _).alloc _,zi.new_at (by simp),(zi.new_at (by simp)).alloc _,by omega,by omega,hj,(((((Below.refl _ _).alloc (Nat.le_refl _) _).alloc (by simp) _).alloc (by simp;omega) _).alloc (by simp;omega) _).alloc (by simp;omega) _,by omega⟩
theorem jR(w:World)(l:List UInt8)(i:Nat)(z k:Int):zi (ur w l i z k) (w.heap.size+1) 79 #[.int .i64 k,.string ⟨#[]⟩,.int .i64 0,.int .i64 (i:Nat)]:=(((zi.new_at (by simp)).alloc _).alloc _).alloc _
theorem jQ(w:World)(l:List UInt8)(i:Nat)(z k:Int):zi (ur w l i z k) w.heap.size 79 #[.int .i64 0,.string ⟨#[]⟩,.int .i64 0,.int .i64 0]:=((((zi.new_at (by simp)).alloc _).alloc _).alloc _).alloc _
theorem Jl:bs []=⟨#[]⟩:=rfl
theorem below_drew'{B:Nat}{a w:World}(h:Below B a w):Below B a w.drew:=⟨h.os,h.tape,h.output,h.size,h.block⟩
theorem yu{w:World}{o1 o2 o3 o4:Obj}(o5:Obj):Below w.heap.size w (((((w.alloc o1).alloc o2).alloc o3).alloc o4).alloc o5).drew:=
 below_drew' ((((((Below.refl _ _).alloc (Nat.le_refl _) _).alloc (by simp) _).alloc (by simp;omega) _).alloc (by simp;omega) _).alloc (by simp;omega) _)
theorem jt{w w1:World}{l:List UInt8}{i J:Nat}{z k:Int}(hA:xH (ur w l i z k) w1 (w.heap.size+1+1) J){a:Nat}{u v0 v1 v2 v3:Value}:
 Below w.heap.size w ((((((w1.setCell ⟨w.heap.size+1,a,none⟩ u).setCell ⟨w.heap.size,0,none⟩ v0).setCell ⟨w.heap.size,1,none⟩ v1).setCell ⟨w.heap.size,2,none⟩ v2).setCell ⟨w.heap.size,3,none⟩ v3).drew):=by
 have h1:Below w.heap.size w (ur w l i z k):=(((((Below.refl _ _).alloc (Nat.le_refl _) _).alloc (by simp) _).alloc (by simp;omega) _).alloc (by simp;omega) _).alloc (by simp;omega) _;have h2:=h1.trans (hA.below (B:=w.heap.size) (by omega) (by simp;omega));exact below_drew' (((((h2.setCell (p:=⟨w.heap.size+1,a,none⟩) (by simp) u).setCell (p:=⟨w.heap.size,0,none⟩) (by simp) v0).setCell (p:=⟨w.heap.size,1,none⟩) (by simp) v1).setCell (p:=⟨w.heap.size,2,none⟩) (by simp) v2).setCell (p:=⟨w.heap.size,3,none⟩) (by simp) v3)
theorem XB{w:World}{l:List UInt8}{i:Nat}(hi:i<l.length)(hl:l.length≤2000)(k1:zM l[i]=true)(h:¬16<zv zW (l.drop i)):
 Calls Tryz.prog 102 #[.string (bs l),.int .i64 (i:Nat)] w (jD w i ⟨0,(l.drop i).take (zv zW (l.drop i)),0⟩ (i+zv zW (l.drop i)) 0):=by
 have hsz:=zs l;have h1:i<(bs l).size:=by omega
 have h2:((i:Nat):Int)<((bs l).size:Int):=by omega
 have hi2:i≤2000:=by omega
 have hc1:zM ((bs l)[i]'h1)=true:=by rw[zA];exact k1
 have hs1:=qe ((bs l)[i]'h1);rw[hc1]at hs1;clear hc1 k1;have hw:=Fx (jS w l i i (i:Nat) 0 rfl (by omega)) hl h;have hH:=jR w l i (i:Nat) 0;have hR:=jQ w l i (i:Nat) 0;have HS:Hid ((bs l).size=l.length):=hsz;clear hsz;go_enter Tryz.func102,Tryz.ntmps102
 go_wp2_with (first
  |(go_at_call 111;refine(qQ _ _ _).mono ?_;rintro e w' ⟨rfl,rfl⟩)
  |(go_at_call 115;refine(hs1 _).mono ?_;rintro e w' ⟨rfl,rfl⟩)
  |(go_at_call 116
    refine hw.mono ?_;rintro e w1 ⟨rfl,hA⟩;have hH1:=hA.other hH (by omega);have hR1:=hA.other hR (by omega);have c0:=hH1.cell 0;have c1:=hH1.cell 1;have c2:=hH1.cell 2;have c3:=hH1.cell 3;have f1:=hH1.free 1;have f2:=hH1.free 2;have hP:=hA.at_.cell 0;have r0:w1.cell? ⟨w.heap.size,0,none⟩=some (.int .i64 0):=hR1.cell 0;have r1:w1.cell? ⟨w.heap.size,1,none⟩=some (.string ⟨#[]⟩):=hR1.cell 1;have r2:w1.cell? ⟨w.heap.size,2,none⟩=some (.int .i64 0):=hR1.cell 2;have r3:w1.cell? ⟨w.heap.size,3,none⟩=some (.int .i64 0):=hR1.cell 3;have g0:=hR1.free 0;have g1:=hR1.free 1;have g2:=hR1.free 2
    have g3:=hR1.free 3))
 go_region
 all_goals
  go_wp2
  exact bodyPost_ret (v:= .tuple #[.agg (jy ⟨0,(l.drop i).take (zv zW (l.drop i)),0⟩ i),.int .i64 (((i+zv zW (l.drop i)):Nat):Int),.int .i64 0]) (by simp[results,Tryz.results102,go_sem,jy,r0,r1,r2,r3]) rfl ⟨rfl,jt hA⟩
theorem Yz{w:World}{l:List UInt8}{i:Nat}(hi:i<l.length)(hl:l.length≤2000)(k1:zM l[i]=true)(h:16<zv zW (l.drop i)):
 Calls Tryz.prog 102 #[.string (bs l),.int .i64 (i:Nat)] w (jD w i ⟨0,[],0⟩ (i+zv zW (l.drop i)) 102):=by
 have hsz:=zs l;have h1:i<(bs l).size:=by omega
 have h2:((i:Nat):Int)<((bs l).size:Int):=by omega
 have hi2:i≤2000:=by omega
 have hc1:zM ((bs l)[i]'h1)=true:=by rw[zA];exact k1
 have hs1:=qe ((bs l)[i]'h1);rw[hc1]at hs1;clear hc1 k1;have hw:=kK (jS w l i i (i:Nat) 0 rfl (by omega)) hl h;have hH:=jR w l i (i:Nat) 0;have hR:=jQ w l i (i:Nat) 0;have HS:Hid ((bs l).size=l.length):=hsz;clear hsz;go_enter Tryz.func102,Tryz.ntmps102
 go_wp2_with (first
  |(go_at_call 111;refine(qQ _ _ _).mono ?_;rintro e w' ⟨rfl,rfl⟩)
  |(go_at_call 115;refine(hs1 _).mono ?_;rintro e w' ⟨rfl,rfl⟩)
  |(go_at_call 116
    refine hw.mono ?_;rintro e w1 ⟨rfl,hA⟩;have hH1:=hA.other hH (by omega);have hR1:=hA.other hR (by omega);have c0:=hH1.cell 0;have c1:=hH1.cell 1;have c2:=hH1.cell 2;have c3:=hH1.cell 3;have f1:=hH1.free 1;have f2:=hH1.free 2;have hP:=hA.at_.cell 0;have r0:w1.cell? ⟨w.heap.size,0,none⟩=some (.int .i64 0):=hR1.cell 0;have r1:w1.cell? ⟨w.heap.size,1,none⟩=some (.string ⟨#[]⟩):=hR1.cell 1;have r2:w1.cell? ⟨w.heap.size,2,none⟩=some (.int .i64 0):=hR1.cell 2;have r3:w1.cell? ⟨w.heap.size,3,none⟩=some (.int .i64 0):=hR1.cell 3;have g0:=hR1.free 0;have g1:=hR1.free 1;have g2:=hR1.free 2
    have g3:=hR1.free 3))
 go_region
 all_goals
  go_wp2
  exact bodyPost_ret (v:= .tuple #[.agg (jy ⟨0,[],0⟩ i),.int .i64 (((i+zv zW (l.drop i)):Nat):Int),.int .i64 102]) (by simp[results,Tryz.results102,go_sem,jy,r0,r1,r2,r3]) rfl ⟨rfl,jt hA⟩
end
end Go.Proofs.YtgljdaakdpgpkaaGreatDoor
