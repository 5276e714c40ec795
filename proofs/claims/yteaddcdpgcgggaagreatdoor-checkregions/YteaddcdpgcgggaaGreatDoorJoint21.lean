import Derived.Test.YteaddcdpgcgggaaGreatDoorJoint20
import Derived.Test.YteaddcdpgcgggaaGreatDoorJoint19
import Derived.Test.YteaddcdpgcgggaaGreatDoorJoint14
import Derived.Test.YteaddcdpgcgggaaGreatDoorJoint13
namespace Go.Proofs.YteaddcdpgcgggaaGreatDoor
set_option linter.unusedVariables false
set_option maxRecDepth 100000
set_option maxHeartbeats 40000000
section
open Go.ChangeShapes Go.WideShapes Go.ChangeAt Go.RowKit
theorem xm{n:Nd}(h:n.op≠vK):Zd n=false:=by
 unfold Zd;rw[show(n.op==vK)=false by simpa using h];rfl
theorem xC{p:Nat→Bool}{E:Nat}(h:∀j,j<E→p j=true):(List.range E).all p=true:=by
 rw[List.all_eq_true];intro j hj;exact h j (List.mem_range.1 hj)
theorem Zi{p:Nat→Bool}{E k:Nat}(hk:k<E)(h:p k=false):(List.range E).all p=false:=by
 cases e:(List.range E).all p with
 |false=>rfl
 |true =>
  rw[List.all_eq_true]at e;have:=e k (List.mem_range.2 hk);rw[h]at this;cases this
theorem ju{w:World}{g t:Nat}{a b c d e:Value}(h:zm w g t #[a,b,c,d,e]):w.cell? ⟨g,0,none⟩=some a∧w.cell? ⟨g,1,none⟩=some b∧w.cell? ⟨g,2,none⟩=some c∧w.cell? ⟨g,3,none⟩=some d∧w.cell? ⟨g,4,none⟩=some e:=⟨h.cell 0,h.cell 1,h.cell 2,h.cell 3,h.cell 4⟩
theorem Um(d N:Nat)(n:Nd)(A:Option Addr)(C:Nat)(w:World)(h:jZ w n A C)(hN:N≤12)(hIH:∀m A' C' W,jZ W m A' C'→Calls Tryz.prog 68 #[zO m A' C',.int .i64 ((N:Int)+1)] W (j1 W (zo d m)))(hs:n.s= [])(hn:n.n=0)(hl:1≤n.l.length)(ho:n.op=qX):
 Calls Tryz.prog 68 #[zO n A C,.int .i64 (N:Nat)] w (j1 w (zo (d+1) n)):=by
 have f0:(n.op== [108,105,110,101,97,114])=true:=by rw[ho];decide
 have f1:(n.op== [115,110,97,112,115,104,111,116])=false:=by rw[ho];decide
 have f2:(n.op== [99,114,121,112,116])=false:=by rw[ho];decide
 have f3:(n.op== [105,110,116,101,103,114,105,116,121])=false:=by rw[ho];decide
 have f4:(n.op== [118,101,114,105,116,121])=false:=by rw[ho];decide
 have f5:(n.op== [99,111,110,99,97,116])=false:=by rw[ho];decide
 have f6:(n.op== [109,105,114,114,111,114])=false:=by rw[ho];decide
 have hlen:=h.len;obtain⟨g,off,Au,Cu,rfl,hg,hat⟩:=jg h (by omega)
 have hU:∀W,Calls Tryz.prog 67 #[.agg #[.string (bs n.op),.string (bs n.s),.int .i64 n.n,.int .i64 n.a,.slice (some ⟨g,off,none⟩) n.l.length C],.string ⟨#[117,115,101]⟩] W (j1 W false):=λW=>by
  have:=vV n (some ⟨g,off,none⟩) n.l.length C W h.s rfl (by omega);rw[xm (by rw[ho];decide)]at this;exact this
 have hR:=Vx (d:=d) (n:=n) (by rw[ho];decide) hs hn;have hot:=zp n.op;unfold zO;rw[hs,hn,show bs []=(⟨#[]⟩:ByteArray)from rfl]at hU ⊢
 obtain⟨L,hL⟩:∃L,L=n.l.length:=⟨_,rfl⟩
 rw[←hL]at hU hlen hl ⊢
 obtain⟨V0,hV0⟩:∃V,V=w.alloc (.cells #[.string (bs n.op),.string ⟨#[]⟩,.int .i64 0,.int .i64 n.a,.slice (some ⟨g,off,none⟩) L C] 24):=⟨_,rfl⟩
 have hbV:Below w.heap.size w V0:=by rw[hV0];exact zl _ _
 have hVs:V0.heap.size=w.heap.size+1:=by rw[hV0];simp
 have HB:Hid (∀W,Below V0.heap.size V0 W→zm W w.heap.size 24 #[.string (bs n.op),.string ⟨#[]⟩,.int .i64 0,.int .i64 n.a,.slice (some ⟨g,off,none⟩) L C]):=λW hW=>zm.below (by rw[hV0];exact zm.new _ _ _) hW (by omega)
 have HA:Hid (∀k W,k<L→Below V0.heap.size V0 W→yO W g (off+k*5) (zF n.l k) (Au k) (Cu k)∧jZ W (zF n.l k) (Au k) (Cu k)):=λk W hk hW=>by
  obtain⟨q1,q2⟩:=hat k (by omega);exact⟨(q1.grow hbV hg).grow hW (by omega),(q2.grow hbV).grow hW⟩
 have HU:Hid (∀W,Calls Tryz.prog 67 #[.agg #[.string (bs n.op),.string ⟨#[]⟩,.int .i64 0,.int .i64 n.a,.slice (some ⟨g,off,none⟩) L C],.string ⟨#[117,115,101]⟩] W (j1 W false)):=hU
 have HN:Hid (∀k W,k<L→Below V0.heap.size V0 W→Calls Tryz.prog 67 #[zO (zF n.l k) (Au k) (Cu k),.string ⟨#[110,117,109]⟩] W (j1 W (zP (λ_=>false) .nu (zF n.l k)))):=λk W hk hW=>by
  have hr:=(HA.out k W hk hW).2;exact xv (zF n.l k) (Au k) (zF n.l k).l.length (Cu k) W hr.s rfl (by have:=hr.len;omega)
 have HM:Hid (∀k W,k<L→Below V0.heap.size V0 W→Calls Tryz.prog 67 #[zO (zF n.l k) (Au k) (Cu k),.string ⟨#[110,97,109,101]⟩] W (j1 W (zP (λ_=>false) .na (zF n.l k)))):=λk W hk hW=>by
  have hr:=(HA.out k W hk hW).2;exact yG (zF n.l k) (Au k) (zF n.l k).l.length (Cu k) W hr.s rfl (by have:=hr.len;omega)
 have HX:Hid (∀k W,k<L→Below V0.heap.size V0 W→Calls Tryz.prog 68 #[zO (zF n.l k) (Au k) (Cu k),.int .i64 ((N:Int)+1)] W (j1 W (zo d (zF n.l k)))):=λk W hk hW=>hIH _ _ _ W (HA.out k W hk hW).2
 have hNi:¬(12:Int)<(N:Int):=by omega
 have hLi:¬(L:Int)<1:=by omega
 have HL:Hid (L=n.l.length):=hL;have hLm:L≤9223372036854775807:=by omega
 have hp:=pk3 (re:=zo d) (n:=n) (a:= .ex) (b:= .nu) (c:= .nu) (by rw[ho];rfl);rw[←hL]at hp;rw[hR,hp];clear hU hat hIH h hlen hL hs hn ho;by_cases h3:L=3
 ·subst h3
  rw[show zP (zo d) .nu (zF n.l 1)=zP (λ_=>false) .nu (zF n.l 1)from rfl,show zP (zo d) .nu (zF n.l 2)=zP (λ_=>false) .nu (zF n.l 2)from rfl,show zP (zo d) .ex (zF n.l 0)=zo d (zF n.l 0)from rfl];cases b1:zP (λ_=>false) .nu (zF n.l 1)
  ·rw[show(_:Bool)=false from(show(decide (3=3)&&(zo d (zF n.l 0)&&false&&zP (λ_=>false) .nu (zF n.l 2)))=false by simp)]
   clear hp hR;go_enter Tryz.func68,Tryz.ntmps68
   go_wp2_with (first
    |((go_at_call 67)
      refine qE 1 (.string ⟨#[117,115,101]⟩) rfl ?_;rw[←hV0];refine(HU.out _).mono ?_;rintro e w1 ⟨rfl,bk1⟩;(obtain⟨p0,p1,p2,p3,p4⟩:=ju (HB.out _ bk1)))
    |(refine zi 44 rfl ?_;refine zd (some 44) (.pointer (some ⟨g,off+1*5,none⟩)) rfl (by rfl) (zu _ _ rfl g off 1 _ C rfl rfl (by omega) _) ?_)
    |(refine zi 45 rfl ?_;refine zd (some 45) (zO (zF n.l 1) (Au 1) (Cu 1)) rfl (by rfl) (zC _ rfl g _ rfl _ (HA.out 1 _ (by omega) bk1).1) ?_)
    |((go_at_call 67)
      refine qE 0 (zO (zF n.l 1) (Au 1) (Cu 1)) rfl ?_;have hc:=HN.out 1 _ (by omega) bk1;rw[b1]at hc;refine hc.mono ?_;rintro e w2 ⟨rfl,hbw2⟩;have bw2:=bk1.trans (hbw2.mono bk1.size);(obtain⟨p0,p1,p2,p3,p4⟩:=ju (HB.out _ bw2))))
   go_ret
   exact⟨rfl,hbV.trans (bw2.mono (by omega))⟩
  ·cases b2:zP (λ_=>false) .nu (zF n.l 2)
   ·rw[show(_:Bool)=false from(show(decide (3=3)&&(zo d (zF n.l 0)&&true&&false))=false by simp)]
    clear hp hR;go_enter Tryz.func68,Tryz.ntmps68
    go_wp2_with (first
     |((go_at_call 67)
       refine qE 1 (.string ⟨#[117,115,101]⟩) rfl ?_;rw[←hV0];refine(HU.out _).mono ?_;rintro e w1 ⟨rfl,bk1⟩;(obtain⟨p0,p1,p2,p3,p4⟩:=ju (HB.out _ bk1)))
     |(refine zi 44 rfl ?_;refine zd (some 44) (.pointer (some ⟨g,off+1*5,none⟩)) rfl (by rfl) (zu _ _ rfl g off 1 _ C rfl rfl (by omega) _) ?_)
     |(refine zi 45 rfl ?_;refine zd (some 45) (zO (zF n.l 1) (Au 1) (Cu 1)) rfl (by rfl) (zC _ rfl g _ rfl _ (HA.out 1 _ (by omega) bk1).1) ?_)
     |(refine zi 53 rfl ?_;refine zd (some 53) (.pointer (some ⟨g,off+2*5,none⟩)) rfl (by rfl) (zu _ _ rfl g off 2 _ C rfl rfl (by omega) _) ?_)
     |(refine zi 54 rfl ?_;refine zd (some 54) (zO (zF n.l 2) (Au 2) (Cu 2)) rfl (by rfl) (zC _ rfl g _ rfl _ (HA.out 2 _ (by omega) bw2).1) ?_)
     |((go_at_call 67)
       refine qE 0 (zO (zF n.l 1) (Au 1) (Cu 1)) rfl ?_;have hc:=HN.out 1 _ (by omega) bk1;rw[b1]at hc;refine hc.mono ?_;rintro e w2 ⟨rfl,hbw2⟩;have bw2:=bk1.trans (hbw2.mono bk1.size);(obtain⟨p0,p1,p2,p3,p4⟩:=ju (HB.out _ bw2)))
     |((go_at_call 67)
       refine qE 0 (zO (zF n.l 2) (Au 2) (Cu 2)) rfl ?_;have hc:=HN.out 2 _ (by omega) bw2;rw[b2]at hc;refine hc.mono ?_;rintro e w3 ⟨rfl,hbw3⟩;have bw3:=bw2.trans (hbw3.mono bw2.size);(obtain⟨p0,p1,p2,p3,p4⟩:=ju (HB.out _ bw3))))
    go_ret
    exact⟨rfl,hbV.trans (bw3.mono (by omega))⟩
   ·have HF:Hid ((decide (3=3)&&(zo d (zF n.l 0)&&true&&true))=(List.range 1).all (λj=>zo d (zF n.l j))):=(by simp :(decide (3=3)&&(zo d (zF n.l 0)&&true&&true))=(List.range 1).all (λj=>zo d (zF n.l j)))
    generalize (decide (3=3)&&(zo d (zF n.l 0)&&true&&true))=RES at HF ⊢;clear hp hR;go_enter Tryz.func68,Tryz.ntmps68
    go_wp2_with (first
     |((go_at_call 67)
       refine qE 1 (.string ⟨#[117,115,101]⟩) rfl ?_;rw[←hV0];refine(HU.out _).mono ?_;rintro e w1 ⟨rfl,bk1⟩;(obtain⟨p0,p1,p2,p3,p4⟩:=ju (HB.out _ bk1)))
     |(refine zi 44 rfl ?_;refine zd (some 44) (.pointer (some ⟨g,off+1*5,none⟩)) rfl (by rfl) (zu _ _ rfl g off 1 _ C rfl rfl (by omega) _) ?_)
     |(refine zi 45 rfl ?_;refine zd (some 45) (zO (zF n.l 1) (Au 1) (Cu 1)) rfl (by rfl) (zC _ rfl g _ rfl _ (HA.out 1 _ (by omega) bk1).1) ?_)
     |(refine zi 53 rfl ?_;refine zd (some 53) (.pointer (some ⟨g,off+2*5,none⟩)) rfl (by rfl) (zu _ _ rfl g off 2 _ C rfl rfl (by omega) _) ?_)
     |(refine zi 54 rfl ?_;refine zd (some 54) (zO (zF n.l 2) (Au 2) (Cu 2)) rfl (by rfl) (zC _ rfl g _ rfl _ (HA.out 2 _ (by omega) bw2).1) ?_)
     |((go_at_call 67)
       refine qE 0 (zO (zF n.l 1) (Au 1) (Cu 1)) rfl ?_;have hc:=HN.out 1 _ (by omega) bk1;rw[b1]at hc;refine hc.mono ?_;rintro e w2 ⟨rfl,hbw2⟩;have bw2:=bk1.trans (hbw2.mono bk1.size);(obtain⟨p0,p1,p2,p3,p4⟩:=ju (HB.out _ bw2)))
     |((go_at_call 67)
       refine qE 0 (zO (zF n.l 2) (Au 2) (Cu 2)) rfl ?_;have hc:=HN.out 2 _ (by omega) bw2;rw[b2]at hc;refine hc.mono ?_;rintro e w3 ⟨rfl,hbw3⟩;have bw3:=bw2.trans (hbw3.mono bw2.size);(obtain⟨p0,p1,p2,p3,p4⟩:=ju (HB.out _ bw3))))
    go_loopw [8] (λi wr=>∃k:Nat,k≤1∧i= .int .i64 k∧Below V0.heap.size V0 wr∧Hid (∀j,j<k→zo d (zF n.l j)=true)) (λi _=>1-(intOf i).toNat)
    case atStart=>exact⟨0,Nat.zero_le _,rfl,bw3,(λj hj=>absurd hj (Nat.not_lt_zero _):∀j,j<0→zo d (zF n.l j)=true)⟩
    case round =>
     obtain⟨k,hk,rfl,bz,HA2⟩:=hrel;obtain⟨p0,p1,p2,p3,p4⟩:=ju (HB.out _ bz);by_cases hlt:k<1
     ·have hc:=HX.out k _ (by omega) bz
      cases hr:zo d (zF n.l k)<;>rw[hr]at hc
      ·have HR2:Hid (zo d (zF n.l k)=false):=hr
       clear hr
       go_wp2_with (first
        |(refine zi 102 rfl ?_;refine zd (some 102) (.pointer (some ⟨g,off+k*5,none⟩)) rfl (by rfl) (zu _ _ rfl g off k _ C rfl rfl (by omega) _) ?_)
        |(refine zi 103 rfl ?_;refine zd (some 103) (zO (zF n.l k) (Au k) (Cu k)) rfl (by rfl) (zC _ rfl g _ rfl _ (HA.out k _ (by omega) bz).1) ?_)
        |((go_at_call 68)
          refine hc.mono ?_;(rintro e w9 ⟨rfl,hb9⟩)))
       go_ret
       refine⟨?_,hbV.trans ((bz.trans (hb9.mono bz.size)).mono (by omega))⟩;rw[HF.out,Zi hlt HR2.out];rfl
      ·have HR2:Hid (zo d (zF n.l k)=true):=hr
       clear hr
       go_wp2_with (first
        |(refine zi 102 rfl ?_;refine zd (some 102) (.pointer (some ⟨g,off+k*5,none⟩)) rfl (by rfl) (zu _ _ rfl g off k _ C rfl rfl (by omega) _) ?_)
        |(refine zi 103 rfl ?_;refine zd (some 103) (zO (zF n.l k) (Au k) (Cu k)) rfl (by rfl) (zC _ rfl g _ rfl _ (HA.out k _ (by omega) bz).1) ?_)
        |((go_at_call 68)
          refine hc.mono ?_;(rintro e w9 ⟨rfl,hb9⟩)))
       go_roundw
       case rel=>exact⟨k+1,hlt,by go_num,bz.trans (hb9.mono bz.size),(λj hj=>by
        by_cases e:j<k
        ·exact HA2.out j e
        ·obtain rfl:j=k:=by omega
         exact HR2.out:∀j,j<k+1→zo d (zF n.l j)=true)⟩
       case measure=>simp[intOf];omega
     ·obtain rfl:k=1:=by omega
      go_wp2
      go_ret
      refine⟨?_,hbV.trans (bz.mono (by omega))⟩;rw[HF.out,xC HA2.out];rfl
 ·have h3i:¬(L:Int)=3:=by omega
  rw[decide_eq_false h3,Bool.false_and];clear hp hR;go_enter Tryz.func68,Tryz.ntmps68
  go_wp2_with (first
   |((go_at_call 67)
     refine qE 1 (.string ⟨#[117,115,101]⟩) rfl ?_;rw[←hV0];refine(HU.out _).mono ?_;rintro e w1 ⟨rfl,bk1⟩;(obtain⟨p0,p1,p2,p3,p4⟩:=ju (HB.out _ bk1))))
  go_ret
  exact⟨rfl,hbV.trans (bk1.mono (by omega))⟩
theorem YB(d N:Nat)(n:Nd)(A:Option Addr)(C:Nat)(w:World)(h:jZ w n A C)(hN:N≤12)(hIH:∀m A' C' W,jZ W m A' C'→Calls Tryz.prog 68 #[zO m A' C',.int .i64 ((N:Int)+1)] W (j1 W (zo d m)))(hs:n.s= [])(hn:n.n=0)(hl:1≤n.l.length)(ho:n.op=qv):
 Calls Tryz.prog 68 #[zO n A C,.int .i64 (N:Nat)] w (j1 w (zo (d+1) n)):=by
 have f0:(n.op== [108,105,110,101,97,114])=false:=by rw[ho];decide
 have f1:(n.op== [115,110,97,112,115,104,111,116])=true:=by rw[ho];decide
 have f2:(n.op== [99,114,121,112,116])=false:=by rw[ho];decide
 have f3:(n.op== [105,110,116,101,103,114,105,116,121])=false:=by rw[ho];decide
 have f4:(n.op== [118,101,114,105,116,121])=false:=by rw[ho];decide
 have f5:(n.op== [99,111,110,99,97,116])=false:=by rw[ho];decide
 have f6:(n.op== [109,105,114,114,111,114])=false:=by rw[ho];decide
 have hlen:=h.len;obtain⟨g,off,Au,Cu,rfl,hg,hat⟩:=jg h (by omega)
 have hU:∀W,Calls Tryz.prog 67 #[.agg #[.string (bs n.op),.string (bs n.s),.int .i64 n.n,.int .i64 n.a,.slice (some ⟨g,off,none⟩) n.l.length C],.string ⟨#[117,115,101]⟩] W (j1 W false):=λW=>by
  have:=vV n (some ⟨g,off,none⟩) n.l.length C W h.s rfl (by omega);rw[xm (by rw[ho];decide)]at this;exact this
 have hR:=Vx (d:=d) (n:=n) (by rw[ho];decide) hs hn;have hot:=zp n.op;unfold zO;rw[hs,hn,show bs []=(⟨#[]⟩:ByteArray)from rfl]at hU ⊢
 obtain⟨L,hL⟩:∃L,L=n.l.length:=⟨_,rfl⟩
 rw[←hL]at hU hlen hl ⊢
 obtain⟨V0,hV0⟩:∃V,V=w.alloc (.cells #[.string (bs n.op),.string ⟨#[]⟩,.int .i64 0,.int .i64 n.a,.slice (some ⟨g,off,none⟩) L C] 24):=⟨_,rfl⟩
 have hbV:Below w.heap.size w V0:=by rw[hV0];exact zl _ _
 have hVs:V0.heap.size=w.heap.size+1:=by rw[hV0];simp
 have HB:Hid (∀W,Below V0.heap.size V0 W→zm W w.heap.size 24 #[.string (bs n.op),.string ⟨#[]⟩,.int .i64 0,.int .i64 n.a,.slice (some ⟨g,off,none⟩) L C]):=λW hW=>zm.below (by rw[hV0];exact zm.new _ _ _) hW (by omega)
 have HA:Hid (∀k W,k<L→Below V0.heap.size V0 W→yO W g (off+k*5) (zF n.l k) (Au k) (Cu k)∧jZ W (zF n.l k) (Au k) (Cu k)):=λk W hk hW=>by
  obtain⟨q1,q2⟩:=hat k (by omega);exact⟨(q1.grow hbV hg).grow hW (by omega),(q2.grow hbV).grow hW⟩
 have HU:Hid (∀W,Calls Tryz.prog 67 #[.agg #[.string (bs n.op),.string ⟨#[]⟩,.int .i64 0,.int .i64 n.a,.slice (some ⟨g,off,none⟩) L C],.string ⟨#[117,115,101]⟩] W (j1 W false)):=hU
 have HN:Hid (∀k W,k<L→Below V0.heap.size V0 W→Calls Tryz.prog 67 #[zO (zF n.l k) (Au k) (Cu k),.string ⟨#[110,117,109]⟩] W (j1 W (zP (λ_=>false) .nu (zF n.l k)))):=λk W hk hW=>by
  have hr:=(HA.out k W hk hW).2;exact xv (zF n.l k) (Au k) (zF n.l k).l.length (Cu k) W hr.s rfl (by have:=hr.len;omega)
 have HM:Hid (∀k W,k<L→Below V0.heap.size V0 W→Calls Tryz.prog 67 #[zO (zF n.l k) (Au k) (Cu k),.string ⟨#[110,97,109,101]⟩] W (j1 W (zP (λ_=>false) .na (zF n.l k)))):=λk W hk hW=>by
  have hr:=(HA.out k W hk hW).2;exact yG (zF n.l k) (Au k) (zF n.l k).l.length (Cu k) W hr.s rfl (by have:=hr.len;omega)
 have HX:Hid (∀k W,k<L→Below V0.heap.size V0 W→Calls Tryz.prog 68 #[zO (zF n.l k) (Au k) (Cu k),.int .i64 ((N:Int)+1)] W (j1 W (zo d (zF n.l k)))):=λk W hk hW=>hIH _ _ _ W (HA.out k W hk hW).2
 have hNi:¬(12:Int)<(N:Int):=by omega
 have hLi:¬(L:Int)<1:=by omega
 have HL:Hid (L=n.l.length):=hL;have hLm:L≤9223372036854775807:=by omega
 have hp:=pk3 (re:=zo d) (n:=n) (a:= .ex) (b:= .ex) (c:= .nu) (by rw[ho];rfl);rw[←hL]at hp;rw[hR,hp];clear hU hat hIH h hlen hL hs hn ho;by_cases h3:L=3
 ·subst h3
  rw[show zP (zo d) .nu (zF n.l 2)=zP (λ_=>false) .nu (zF n.l 2)from rfl,show zP (zo d) .ex (zF n.l 0)=zo d (zF n.l 0)from rfl,show zP (zo d) .ex (zF n.l 1)=zo d (zF n.l 1)from rfl];cases b1:zP (λ_=>false) .nu (zF n.l 2)
  ·rw[show(_:Bool)=false from(show(decide (3=3)&&(zo d (zF n.l 0)&&zo d (zF n.l 1)&&false))=false by simp)]
   clear hp hR;go_enter Tryz.func68,Tryz.ntmps68
   go_wp2_with (first
    |((go_at_call 67)
      refine qE 1 (.string ⟨#[117,115,101]⟩) rfl ?_;rw[←hV0];refine(HU.out _).mono ?_;rintro e w1 ⟨rfl,bk1⟩;(obtain⟨p0,p1,p2,p3,p4⟩:=ju (HB.out _ bk1)))
    |(refine zi 67 rfl ?_;refine zd (some 67) (.pointer (some ⟨g,off+2*5,none⟩)) rfl (by rfl) (zu _ _ rfl g off 2 _ C rfl rfl (by omega) _) ?_)
    |(refine zi 68 rfl ?_;refine zd (some 68) (zO (zF n.l 2) (Au 2) (Cu 2)) rfl (by rfl) (zC _ rfl g _ rfl _ (HA.out 2 _ (by omega) bk1).1) ?_)
    |((go_at_call 67)
      refine qE 0 (zO (zF n.l 2) (Au 2) (Cu 2)) rfl ?_;have hc:=HN.out 2 _ (by omega) bk1;rw[b1]at hc;refine hc.mono ?_;rintro e w2 ⟨rfl,hbw2⟩;have bw2:=bk1.trans (hbw2.mono bk1.size);(obtain⟨p0,p1,p2,p3,p4⟩:=ju (HB.out _ bw2))))
   go_ret
   exact⟨rfl,hbV.trans (bw2.mono (by omega))⟩
  ·have HF:Hid ((decide (3=3)&&(zo d (zF n.l 0)&&zo d (zF n.l 1)&&true))=(List.range 2).all (λj=>zo d (zF n.l j))):=(by simp[List.range_succ]:(decide (3=3)&&(zo d (zF n.l 0)&&zo d (zF n.l 1)&&true))=(List.range 2).all (λj=>zo d (zF n.l j)))
   generalize (decide (3=3)&&(zo d (zF n.l 0)&&zo d (zF n.l 1)&&true))=RES at HF ⊢;clear hp hR;go_enter Tryz.func68,Tryz.ntmps68
   go_wp2_with (first
    |((go_at_call 67)
      refine qE 1 (.string ⟨#[117,115,101]⟩) rfl ?_;rw[←hV0];refine(HU.out _).mono ?_;rintro e w1 ⟨rfl,bk1⟩;(obtain⟨p0,p1,p2,p3,p4⟩:=ju (HB.out _ bk1)))
    |(refine zi 67 rfl ?_;refine zd (some 67) (.pointer (some ⟨g,off+2*5,none⟩)) rfl (by rfl) (zu _ _ rfl g off 2 _ C rfl rfl (by omega) _) ?_)
    |(refine zi 68 rfl ?_;refine zd (some 68) (zO (zF n.l 2) (Au 2) (Cu 2)) rfl (by rfl) (zC _ rfl g _ rfl _ (HA.out 2 _ (by omega) bk1).1) ?_)
    |((go_at_call 67)
      refine qE 0 (zO (zF n.l 2) (Au 2) (Cu 2)) rfl ?_;have hc:=HN.out 2 _ (by omega) bk1;rw[b1]at hc;refine hc.mono ?_;rintro e w2 ⟨rfl,hbw2⟩;have bw2:=bk1.trans (hbw2.mono bk1.size);(obtain⟨p0,p1,p2,p3,p4⟩:=ju (HB.out _ bw2))))
   go_loopw [8] (λi wr=>∃k:Nat,k≤2∧i= .int .i64 k∧Below V0.heap.size V0 wr∧Hid (∀j,j<k→zo d (zF n.l j)=true)) (λi _=>2-(intOf i).toNat)
   case atStart=>exact⟨0,Nat.zero_le _,rfl,bw2,(λj hj=>absurd hj (Nat.not_lt_zero _):∀j,j<0→zo d (zF n.l j)=true)⟩
   case round =>
    obtain⟨k,hk,rfl,bz,HA2⟩:=hrel;obtain⟨p0,p1,p2,p3,p4⟩:=ju (HB.out _ bz);by_cases hlt:k<2
    ·have hc:=HX.out k _ (by omega) bz
     cases hr:zo d (zF n.l k)<;>rw[hr]at hc
     ·have HR2:Hid (zo d (zF n.l k)=false):=hr
      clear hr
      go_wp2_with (first
       |(refine zi 102 rfl ?_;refine zd (some 102) (.pointer (some ⟨g,off+k*5,none⟩)) rfl (by rfl) (zu _ _ rfl g off k _ C rfl rfl (by omega) _) ?_)
       |(refine zi 103 rfl ?_;refine zd (some 103) (zO (zF n.l k) (Au k) (Cu k)) rfl (by rfl) (zC _ rfl g _ rfl _ (HA.out k _ (by omega) bz).1) ?_)
       |((go_at_call 68)
         refine hc.mono ?_;(rintro e w9 ⟨rfl,hb9⟩)))
      go_ret
      refine⟨?_,hbV.trans ((bz.trans (hb9.mono bz.size)).mono (by omega))⟩;rw[HF.out,Zi hlt HR2.out];rfl
     ·have HR2:Hid (zo d (zF n.l k)=true):=hr
      clear hr
      go_wp2_with (first
       |(refine zi 102 rfl ?_;refine zd (some 102) (.pointer (some ⟨g,off+k*5,none⟩)) rfl (by rfl) (zu _ _ rfl g off k _ C rfl rfl (by omega) _) ?_)
       |(refine zi 103 rfl ?_;refine zd (some 103) (zO (zF n.l k) (Au k) (Cu k)) rfl (by rfl) (zC _ rfl g _ rfl _ (HA.out k _ (by omega) bz).1) ?_)
       |((go_at_call 68)
         refine hc.mono ?_;(rintro e w9 ⟨rfl,hb9⟩)))
      go_roundw
      case rel=>exact⟨k+1,hlt,by go_num,bz.trans (hb9.mono bz.size),(λj hj=>by
       by_cases e:j<k
       ·exact HA2.out j e
       ·obtain rfl:j=k:=by omega
        exact HR2.out:∀j,j<k+1→zo d (zF n.l j)=true)⟩
      case measure=>simp[intOf];omega
    ·obtain rfl:k=2:=by omega
     go_wp2
     go_ret
     refine⟨?_,hbV.trans (bz.mono (by omega))⟩;rw[HF.out,xC HA2.out];rfl
 ·have h3i:¬(L:Int)=3:=by omega
  rw[decide_eq_false h3,Bool.false_and];clear hp hR;go_enter Tryz.func68,Tryz.ntmps68
  go_wp2_with (first
   |((go_at_call 67)
     refine qE 1 (.string ⟨#[117,115,101]⟩) rfl ?_;rw[←hV0];refine(HU.out _).mono ?_;rintro e w1 ⟨rfl,bk1⟩;(obtain⟨p0,p1,p2,p3,p4⟩:=ju (HB.out _ bk1))))
  go_ret
  exact⟨rfl,hbV.trans (bk1.mono (by omega))⟩
theorem uL(d N:Nat)(n:Nd)(A:Option Addr)(C:Nat)(w:World)(h:jZ w n A C)(hN:N≤12)(hIH:∀m A' C' W,jZ W m A' C'→Calls Tryz.prog 68 #[zO m A' C',.int .i64 ((N:Int)+1)] W (j1 W (zo d m)))(hs:n.s= [])(hn:n.n=0)(hl:1≤n.l.length)(ho:n.op=jl):
 Calls Tryz.prog 68 #[zO n A C,.int .i64 (N:Nat)] w (j1 w (zo (d+1) n)):=by
 have f0:(n.op== [108,105,110,101,97,114])=false:=by rw[ho];decide
 have f1:(n.op== [115,110,97,112,115,104,111,116])=false:=by rw[ho];decide
 have f2:(n.op== [99,114,121,112,116])=true:=by rw[ho];decide
 have f3:(n.op== [105,110,116,101,103,114,105,116,121])=false:=by rw[ho];decide
 have f4:(n.op== [118,101,114,105,116,121])=false:=by rw[ho];decide
 have f5:(n.op== [99,111,110,99,97,116])=false:=by rw[ho];decide
 have f6:(n.op== [109,105,114,114,111,114])=false:=by rw[ho];decide
 have hlen:=h.len;obtain⟨g,off,Au,Cu,rfl,hg,hat⟩:=jg h (by omega)
 have hU:∀W,Calls Tryz.prog 67 #[.agg #[.string (bs n.op),.string (bs n.s),.int .i64 n.n,.int .i64 n.a,.slice (some ⟨g,off,none⟩) n.l.length C],.string ⟨#[117,115,101]⟩] W (j1 W false):=λW=>by
  have:=vV n (some ⟨g,off,none⟩) n.l.length C W h.s rfl (by omega);rw[xm (by rw[ho];decide)]at this;exact this
 have hR:=Vx (d:=d) (n:=n) (by rw[ho];decide) hs hn;have hot:=zp n.op;unfold zO;rw[hs,hn,show bs []=(⟨#[]⟩:ByteArray)from rfl]at hU ⊢
 obtain⟨L,hL⟩:∃L,L=n.l.length:=⟨_,rfl⟩
 rw[←hL]at hU hlen hl ⊢
 obtain⟨V0,hV0⟩:∃V,V=w.alloc (.cells #[.string (bs n.op),.string ⟨#[]⟩,.int .i64 0,.int .i64 n.a,.slice (some ⟨g,off,none⟩) L C] 24):=⟨_,rfl⟩
 have hbV:Below w.heap.size w V0:=by rw[hV0];exact zl _ _
 have hVs:V0.heap.size=w.heap.size+1:=by rw[hV0];simp
 have HB:Hid (∀W,Below V0.heap.size V0 W→zm W w.heap.size 24 #[.string (bs n.op),.string ⟨#[]⟩,.int .i64 0,.int .i64 n.a,.slice (some ⟨g,off,none⟩) L C]):=λW hW=>zm.below (by rw[hV0];exact zm.new _ _ _) hW (by omega)
 have HA:Hid (∀k W,k<L→Below V0.heap.size V0 W→yO W g (off+k*5) (zF n.l k) (Au k) (Cu k)∧jZ W (zF n.l k) (Au k) (Cu k)):=λk W hk hW=>by
  obtain⟨q1,q2⟩:=hat k (by omega);exact⟨(q1.grow hbV hg).grow hW (by omega),(q2.grow hbV).grow hW⟩
 have HU:Hid (∀W,Calls Tryz.prog 67 #[.agg #[.string (bs n.op),.string ⟨#[]⟩,.int .i64 0,.int .i64 n.a,.slice (some ⟨g,off,none⟩) L C],.string ⟨#[117,115,101]⟩] W (j1 W false)):=hU
 have HN:Hid (∀k W,k<L→Below V0.heap.size V0 W→Calls Tryz.prog 67 #[zO (zF n.l k) (Au k) (Cu k),.string ⟨#[110,117,109]⟩] W (j1 W (zP (λ_=>false) .nu (zF n.l k)))):=λk W hk hW=>by
  have hr:=(HA.out k W hk hW).2;exact xv (zF n.l k) (Au k) (zF n.l k).l.length (Cu k) W hr.s rfl (by have:=hr.len;omega)
 have HM:Hid (∀k W,k<L→Below V0.heap.size V0 W→Calls Tryz.prog 67 #[zO (zF n.l k) (Au k) (Cu k),.string ⟨#[110,97,109,101]⟩] W (j1 W (zP (λ_=>false) .na (zF n.l k)))):=λk W hk hW=>by
  have hr:=(HA.out k W hk hW).2;exact yG (zF n.l k) (Au k) (zF n.l k).l.length (Cu k) W hr.s rfl (by have:=hr.len;omega)
 have HX:Hid (∀k W,k<L→Below V0.heap.size V0 W→Calls Tryz.prog 68 #[zO (zF n.l k) (Au k) (Cu k),.int .i64 ((N:Int)+1)] W (j1 W (zo d (zF n.l k)))):=λk W hk hW=>hIH _ _ _ W (HA.out k W hk hW).2
 have hNi:¬(12:Int)<(N:Int):=by omega
 have hLi:¬(L:Int)<1:=by omega
 have HL:Hid (L=n.l.length):=hL;have hLm:L≤9223372036854775807:=by omega
 have hp:=pk2 (re:=zo d) (n:=n) (a:= .ex) (b:= .na) (by rw[ho];rfl);rw[←hL]at hp;rw[hR,hp];clear hU hat hIH h hlen hL hs hn ho;by_cases h3:L=2
 ·subst h3
  rw[show zP (zo d) .na (zF n.l 1)=zP (λ_=>false) .na (zF n.l 1)from rfl,show zP (zo d) .ex (zF n.l 0)=zo d (zF n.l 0)from rfl];cases b1:zP (λ_=>false) .na (zF n.l 1)
  ·rw[show(_:Bool)=false from(show(decide (2=2)&&(zo d (zF n.l 0)&&false))=false by simp)]
   clear hp hR;go_enter Tryz.func68,Tryz.ntmps68
   go_wp2_with (first
    |((go_at_call 67)
      refine qE 1 (.string ⟨#[117,115,101]⟩) rfl ?_;rw[←hV0];refine(HU.out _).mono ?_;rintro e w1 ⟨rfl,bk1⟩;(obtain⟨p0,p1,p2,p3,p4⟩:=ju (HB.out _ bk1)))
    |(refine zi 83 rfl ?_;refine zd (some 83) (.pointer (some ⟨g,off+1*5,none⟩)) rfl (by rfl) (zu _ _ rfl g off 1 _ C rfl rfl (by omega) _) ?_)
    |(refine zi 84 rfl ?_;refine zd (some 84) (zO (zF n.l 1) (Au 1) (Cu 1)) rfl (by rfl) (zC _ rfl g _ rfl _ (HA.out 1 _ (by omega) bk1).1) ?_)
    |((go_at_call 67)
      refine qE 0 (zO (zF n.l 1) (Au 1) (Cu 1)) rfl ?_;have hc:=HM.out 1 _ (by omega) bk1;rw[b1]at hc;refine hc.mono ?_;rintro e w2 ⟨rfl,hbw2⟩;have bw2:=bk1.trans (hbw2.mono bk1.size);(obtain⟨p0,p1,p2,p3,p4⟩:=ju (HB.out _ bw2))))
   go_ret
   exact⟨rfl,hbV.trans (bw2.mono (by omega))⟩
  ·have HF:Hid ((decide (2=2)&&(zo d (zF n.l 0)&&true))=(List.range 1).all (λj=>zo d (zF n.l j))):=(by simp[List.range_succ]:(decide (2=2)&&(zo d (zF n.l 0)&&true))=(List.range 1).all (λj=>zo d (zF n.l j)))
   generalize (decide (2=2)&&(zo d (zF n.l 0)&&true))=RES at HF ⊢;clear hp hR;go_enter Tryz.func68,Tryz.ntmps68
   go_wp2_with (first
    |((go_at_call 67)
      refine qE 1 (.string ⟨#[117,115,101]⟩) rfl ?_;rw[←hV0];refine(HU.out _).mono ?_;rintro e w1 ⟨rfl,bk1⟩;(obtain⟨p0,p1,p2,p3,p4⟩:=ju (HB.out _ bk1)))
    |(refine zi 83 rfl ?_;refine zd (some 83) (.pointer (some ⟨g,off+1*5,none⟩)) rfl (by rfl) (zu _ _ rfl g off 1 _ C rfl rfl (by omega) _) ?_)
    |(refine zi 84 rfl ?_;refine zd (some 84) (zO (zF n.l 1) (Au 1) (Cu 1)) rfl (by rfl) (zC _ rfl g _ rfl _ (HA.out 1 _ (by omega) bk1).1) ?_)
    |((go_at_call 67)
      refine qE 0 (zO (zF n.l 1) (Au 1) (Cu 1)) rfl ?_;have hc:=HM.out 1 _ (by omega) bk1;rw[b1]at hc;refine hc.mono ?_;rintro e w2 ⟨rfl,hbw2⟩;have bw2:=bk1.trans (hbw2.mono bk1.size);(obtain⟨p0,p1,p2,p3,p4⟩:=ju (HB.out _ bw2))))
   go_loopw [8] (λi wr=>∃k:Nat,k≤1∧i= .int .i64 k∧Below V0.heap.size V0 wr∧Hid (∀j,j<k→zo d (zF n.l j)=true)) (λi _=>1-(intOf i).toNat)
   case atStart=>exact⟨0,Nat.zero_le _,rfl,bw2,(λj hj=>absurd hj (Nat.not_lt_zero _):∀j,j<0→zo d (zF n.l j)=true)⟩
   case round =>
    obtain⟨k,hk,rfl,bz,HA2⟩:=hrel;obtain⟨p0,p1,p2,p3,p4⟩:=ju (HB.out _ bz);by_cases hlt:k<1
    ·have hc:=HX.out k _ (by omega) bz
     cases hr:zo d (zF n.l k)<;>rw[hr]at hc
     ·have HR2:Hid (zo d (zF n.l k)=false):=hr
      clear hr
      go_wp2_with (first
       |(refine zi 102 rfl ?_;refine zd (some 102) (.pointer (some ⟨g,off+k*5,none⟩)) rfl (by rfl) (zu _ _ rfl g off k _ C rfl rfl (by omega) _) ?_)
       |(refine zi 103 rfl ?_;refine zd (some 103) (zO (zF n.l k) (Au k) (Cu k)) rfl (by rfl) (zC _ rfl g _ rfl _ (HA.out k _ (by omega) bz).1) ?_)
       |((go_at_call 68)
         refine hc.mono ?_;(rintro e w9 ⟨rfl,hb9⟩)))
      go_ret
      refine⟨?_,hbV.trans ((bz.trans (hb9.mono bz.size)).mono (by omega))⟩;rw[HF.out,Zi hlt HR2.out];rfl
     ·have HR2:Hid (zo d (zF n.l k)=true):=hr
      clear hr
      go_wp2_with (first
       |(refine zi 102 rfl ?_;refine zd (some 102) (.pointer (some ⟨g,off+k*5,none⟩)) rfl (by rfl) (zu _ _ rfl g off k _ C rfl rfl (by omega) _) ?_)
       |(refine zi 103 rfl ?_;refine zd (some 103) (zO (zF n.l k) (Au k) (Cu k)) rfl (by rfl) (zC _ rfl g _ rfl _ (HA.out k _ (by omega) bz).1) ?_)
       |((go_at_call 68)
         refine hc.mono ?_;(rintro e w9 ⟨rfl,hb9⟩)))
      go_roundw
      case rel=>exact⟨k+1,hlt,by go_num,bz.trans (hb9.mono bz.size),(λj hj=>by
       by_cases e:j<k
       ·exact HA2.out j e
       ·obtain rfl:j=k:=by omega
        exact HR2.out:∀j,j<k+1→zo d (zF n.l j)=true)⟩
      case measure=>simp[intOf];omega
    ·obtain rfl:k=1:=by omega
     go_wp2
     go_ret
     refine⟨?_,hbV.trans (bz.mono (by omega))⟩;rw[HF.out,xC HA2.out];rfl
 ·have h3i:¬(L:Int)=2:=by omega
  rw[decide_eq_false h3,Bool.false_and];clear hp hR;go_enter Tryz.func68,Tryz.ntmps68
  go_wp2_with (first
   |((go_at_call 67)
     refine qE 1 (.string ⟨#[117,115,101]⟩) rfl ?_;rw[←hV0];refine(HU.out _).mono ?_;rintro e w1 ⟨rfl,bk1⟩;(obtain⟨p0,p1,p2,p3,p4⟩:=ju (HB.out _ bk1))))
  go_ret
  exact⟨rfl,hbV.trans (bk1.mono (by omega))⟩
theorem Vt(d N:Nat)(n:Nd)(A:Option Addr)(C:Nat)(w:World)(h:jZ w n A C)(hN:N≤12)(hIH:∀m A' C' W,jZ W m A' C'→Calls Tryz.prog 68 #[zO m A' C',.int .i64 ((N:Int)+1)] W (j1 W (zo d m)))(hs:n.s= [])(hn:n.n=0)(hl:1≤n.l.length)(ho:n.op=qb):
 Calls Tryz.prog 68 #[zO n A C,.int .i64 (N:Nat)] w (j1 w (zo (d+1) n)):=by
 have f0:(n.op== [108,105,110,101,97,114])=false:=by rw[ho];decide
 have f1:(n.op== [115,110,97,112,115,104,111,116])=false:=by rw[ho];decide
 have f2:(n.op== [99,114,121,112,116])=false:=by rw[ho];decide
 have f3:(n.op== [105,110,116,101,103,114,105,116,121])=true:=by rw[ho];decide
 have f4:(n.op== [118,101,114,105,116,121])=false:=by rw[ho];decide
 have f5:(n.op== [99,111,110,99,97,116])=false:=by rw[ho];decide
 have f6:(n.op== [109,105,114,114,111,114])=false:=by rw[ho];decide
 have hlen:=h.len;obtain⟨g,off,Au,Cu,rfl,hg,hat⟩:=jg h (by omega)
 have hU:∀W,Calls Tryz.prog 67 #[.agg #[.string (bs n.op),.string (bs n.s),.int .i64 n.n,.int .i64 n.a,.slice (some ⟨g,off,none⟩) n.l.length C],.string ⟨#[117,115,101]⟩] W (j1 W false):=λW=>by
  have:=vV n (some ⟨g,off,none⟩) n.l.length C W h.s rfl (by omega);rw[xm (by rw[ho];decide)]at this;exact this
 have hR:=Vx (d:=d) (n:=n) (by rw[ho];decide) hs hn;have hot:=zp n.op;unfold zO;rw[hs,hn,show bs []=(⟨#[]⟩:ByteArray)from rfl]at hU ⊢
 obtain⟨L,hL⟩:∃L,L=n.l.length:=⟨_,rfl⟩
 rw[←hL]at hU hlen hl ⊢
 obtain⟨V0,hV0⟩:∃V,V=w.alloc (.cells #[.string (bs n.op),.string ⟨#[]⟩,.int .i64 0,.int .i64 n.a,.slice (some ⟨g,off,none⟩) L C] 24):=⟨_,rfl⟩
 have hbV:Below w.heap.size w V0:=by rw[hV0];exact zl _ _
 have hVs:V0.heap.size=w.heap.size+1:=by rw[hV0];simp
 have HB:Hid (∀W,Below V0.heap.size V0 W→zm W w.heap.size 24 #[.string (bs n.op),.string ⟨#[]⟩,.int .i64 0,.int .i64 n.a,.slice (some ⟨g,off,none⟩) L C]):=λW hW=>zm.below (by rw[hV0];exact zm.new _ _ _) hW (by omega)
 have HA:Hid (∀k W,k<L→Below V0.heap.size V0 W→yO W g (off+k*5) (zF n.l k) (Au k) (Cu k)∧jZ W (zF n.l k) (Au k) (Cu k)):=λk W hk hW=>by
  obtain⟨q1,q2⟩:=hat k (by omega);exact⟨(q1.grow hbV hg).grow hW (by omega),(q2.grow hbV).grow hW⟩
 have HU:Hid (∀W,Calls Tryz.prog 67 #[.agg #[.string (bs n.op),.string ⟨#[]⟩,.int .i64 0,.int .i64 n.a,.slice (some ⟨g,off,none⟩) L C],.string ⟨#[117,115,101]⟩] W (j1 W false)):=hU
 have HN:Hid (∀k W,k<L→Below V0.heap.size V0 W→Calls Tryz.prog 67 #[zO (zF n.l k) (Au k) (Cu k),.string ⟨#[110,117,109]⟩] W (j1 W (zP (λ_=>false) .nu (zF n.l k)))):=λk W hk hW=>by
  have hr:=(HA.out k W hk hW).2;exact xv (zF n.l k) (Au k) (zF n.l k).l.length (Cu k) W hr.s rfl (by have:=hr.len;omega)
 have HM:Hid (∀k W,k<L→Below V0.heap.size V0 W→Calls Tryz.prog 67 #[zO (zF n.l k) (Au k) (Cu k),.string ⟨#[110,97,109,101]⟩] W (j1 W (zP (λ_=>false) .na (zF n.l k)))):=λk W hk hW=>by
  have hr:=(HA.out k W hk hW).2;exact yG (zF n.l k) (Au k) (zF n.l k).l.length (Cu k) W hr.s rfl (by have:=hr.len;omega)
 have HX:Hid (∀k W,k<L→Below V0.heap.size V0 W→Calls Tryz.prog 68 #[zO (zF n.l k) (Au k) (Cu k),.int .i64 ((N:Int)+1)] W (j1 W (zo d (zF n.l k)))):=λk W hk hW=>hIH _ _ _ W (HA.out k W hk hW).2
 have hNi:¬(12:Int)<(N:Int):=by omega
 have hLi:¬(L:Int)<1:=by omega
 have HL:Hid (L=n.l.length):=hL;have hLm:L≤9223372036854775807:=by omega
 have hp:=pk2 (re:=zo d) (n:=n) (a:= .ex) (b:= .na) (by rw[ho];rfl);rw[←hL]at hp;rw[hR,hp];clear hU hat hIH h hlen hL hs hn ho;by_cases h3:L=2
 ·subst h3
  rw[show zP (zo d) .na (zF n.l 1)=zP (λ_=>false) .na (zF n.l 1)from rfl,show zP (zo d) .ex (zF n.l 0)=zo d (zF n.l 0)from rfl];cases b1:zP (λ_=>false) .na (zF n.l 1)
  ·rw[show(_:Bool)=false from(show(decide (2=2)&&(zo d (zF n.l 0)&&false))=false by simp)]
   clear hp hR;go_enter Tryz.func68,Tryz.ntmps68
   go_wp2_with (first
    |((go_at_call 67)
      refine qE 1 (.string ⟨#[117,115,101]⟩) rfl ?_;rw[←hV0];refine(HU.out _).mono ?_;rintro e w1 ⟨rfl,bk1⟩;(obtain⟨p0,p1,p2,p3,p4⟩:=ju (HB.out _ bk1)))
    |(refine zi 83 rfl ?_;refine zd (some 83) (.pointer (some ⟨g,off+1*5,none⟩)) rfl (by rfl) (zu _ _ rfl g off 1 _ C rfl rfl (by omega) _) ?_)
    |(refine zi 84 rfl ?_;refine zd (some 84) (zO (zF n.l 1) (Au 1) (Cu 1)) rfl (by rfl) (zC _ rfl g _ rfl _ (HA.out 1 _ (by omega) bk1).1) ?_)
    |((go_at_call 67)
      refine qE 0 (zO (zF n.l 1) (Au 1) (Cu 1)) rfl ?_;have hc:=HM.out 1 _ (by omega) bk1;rw[b1]at hc;refine hc.mono ?_;rintro e w2 ⟨rfl,hbw2⟩;have bw2:=bk1.trans (hbw2.mono bk1.size);(obtain⟨p0,p1,p2,p3,p4⟩:=ju (HB.out _ bw2))))
   go_ret
   exact⟨rfl,hbV.trans (bw2.mono (by omega))⟩
  ·have HF:Hid ((decide (2=2)&&(zo d (zF n.l 0)&&true))=(List.range 1).all (λj=>zo d (zF n.l j))):=(by simp[List.range_succ]:(decide (2=2)&&(zo d (zF n.l 0)&&true))=(List.range 1).all (λj=>zo d (zF n.l j)))
   generalize (decide (2=2)&&(zo d (zF n.l 0)&&true))=RES at HF ⊢;clear hp hR;go_enter Tryz.func68,Tryz.ntmps68
   go_wp2_with (first
    |((go_at_call 67)
      refine qE 1 (.string ⟨#[117,115,101]⟩) rfl ?_;rw[←hV0];refine(HU.out _).mono ?_;rintro e w1 ⟨rfl,bk1⟩;(obtain⟨p0,p1,p2,p3,p4⟩:=ju (HB.out _ bk1)))
    |(refine zi 83 rfl ?_;refine zd (some 83) (.pointer (some ⟨g,off+1*5,none⟩)) rfl (by rfl) (zu _ _ rfl g off 1 _ C rfl rfl (by omega) _) ?_)
    |(refine zi 84 rfl ?_;refine zd (some 84) (zO (zF n.l 1) (Au 1) (Cu 1)) rfl (by rfl) (zC _ rfl g _ rfl _ (HA.out 1 _ (by omega) bk1).1) ?_)
    |((go_at_call 67)
      refine qE 0 (zO (zF n.l 1) (Au 1) (Cu 1)) rfl ?_;have hc:=HM.out 1 _ (by omega) bk1;rw[b1]at hc;refine hc.mono ?_;rintro e w2 ⟨rfl,hbw2⟩;have bw2:=bk1.trans (hbw2.mono bk1.size);(obtain⟨p0,p1,p2,p3,p4⟩:=ju (HB.out _ bw2))))
   go_loopw [8] (λi wr=>∃k:Nat,k≤1∧i= .int .i64 k∧Below V0.heap.size V0 wr∧Hid (∀j,j<k→zo d (zF n.l j)=true)) (λi _=>1-(intOf i).toNat)
   case atStart=>exact⟨0,Nat.zero_le _,rfl,bw2,(λj hj=>absurd hj (Nat.not_lt_zero _):∀j,j<0→zo d (zF n.l j)=true)⟩
   case round =>
    obtain⟨k,hk,rfl,bz,HA2⟩:=hrel;obtain⟨p0,p1,p2,p3,p4⟩:=ju (HB.out _ bz);by_cases hlt:k<1
    ·have hc:=HX.out k _ (by omega) bz
     cases hr:zo d (zF n.l k)<;>rw[hr]at hc
     ·have HR2:Hid (zo d (zF n.l k)=false):=hr
      clear hr
      go_wp2_with (first
       |(refine zi 102 rfl ?_;refine zd (some 102) (.pointer (some ⟨g,off+k*5,none⟩)) rfl (by rfl) (zu _ _ rfl g off k _ C rfl rfl (by omega) _) ?_)
       |(refine zi 103 rfl ?_;refine zd (some 103) (zO (zF n.l k) (Au k) (Cu k)) rfl (by rfl) (zC _ rfl g _ rfl _ (HA.out k _ (by omega) bz).1) ?_)
       |((go_at_call 68)
         refine hc.mono ?_;(rintro e w9 ⟨rfl,hb9⟩)))
      go_ret
      refine⟨?_,hbV.trans ((bz.trans (hb9.mono bz.size)).mono (by omega))⟩;rw[HF.out,Zi hlt HR2.out];rfl
     ·have HR2:Hid (zo d (zF n.l k)=true):=hr
      clear hr
      go_wp2_with (first
       |(refine zi 102 rfl ?_;refine zd (some 102) (.pointer (some ⟨g,off+k*5,none⟩)) rfl (by rfl) (zu _ _ rfl g off k _ C rfl rfl (by omega) _) ?_)
       |(refine zi 103 rfl ?_;refine zd (some 103) (zO (zF n.l k) (Au k) (Cu k)) rfl (by rfl) (zC _ rfl g _ rfl _ (HA.out k _ (by omega) bz).1) ?_)
       |((go_at_call 68)
         refine hc.mono ?_;(rintro e w9 ⟨rfl,hb9⟩)))
      go_roundw
      case rel=>exact⟨k+1,hlt,by go_num,bz.trans (hb9.mono bz.size),(λj hj=>by
       by_cases e:j<k
       ·exact HA2.out j e
       ·obtain rfl:j=k:=by omega
        exact HR2.out:∀j,j<k+1→zo d (zF n.l j)=true)⟩
      case measure=>simp[intOf];omega
    ·obtain rfl:k=1:=by omega
     go_wp2
     go_ret
     refine⟨?_,hbV.trans (bz.mono (by omega))⟩;rw[HF.out,xC HA2.out];rfl
 ·have h3i:¬(L:Int)=2:=by omega
  rw[decide_eq_false h3,Bool.false_and];clear hp hR;go_enter Tryz.func68,Tryz.ntmps68
  go_wp2_with (first
   |((go_at_call 67)
     refine qE 1 (.string ⟨#[117,115,101]⟩) rfl ?_;rw[←hV0];refine(HU.out _).mono ?_;rintro e w1 ⟨rfl,bk1⟩;(obtain⟨p0,p1,p2,p3,p4⟩:=ju (HB.out _ bk1))))
  go_ret
  exact⟨rfl,hbV.trans (bk1.mono (by omega))⟩
theorem kV(d N:Nat)(n:Nd)(A:Option Addr)(C:Nat)(w:World)(h:jZ w n A C)(hN:N≤12)(hIH:∀m A' C' W,jZ W m A' C'→Calls Tryz.prog 68 #[zO m A' C',.int .i64 ((N:Int)+1)] W (j1 W (zo d m)))(hs:n.s= [])(hn:n.n=0)(hl:1≤n.l.length)(ho:n.op=jf):
 Calls Tryz.prog 68 #[zO n A C,.int .i64 (N:Nat)] w (j1 w (zo (d+1) n)):=by
 have f0:(n.op== [108,105,110,101,97,114])=false:=by rw[ho];decide
 have f1:(n.op== [115,110,97,112,115,104,111,116])=false:=by rw[ho];decide
 have f2:(n.op== [99,114,121,112,116])=false:=by rw[ho];decide
 have f3:(n.op== [105,110,116,101,103,114,105,116,121])=false:=by rw[ho];decide
 have f4:(n.op== [118,101,114,105,116,121])=true:=by rw[ho];decide
 have f5:(n.op== [99,111,110,99,97,116])=false:=by rw[ho];decide
 have f6:(n.op== [109,105,114,114,111,114])=false:=by rw[ho];decide
 have hlen:=h.len;obtain⟨g,off,Au,Cu,rfl,hg,hat⟩:=jg h (by omega)
 have hU:∀W,Calls Tryz.prog 67 #[.agg #[.string (bs n.op),.string (bs n.s),.int .i64 n.n,.int .i64 n.a,.slice (some ⟨g,off,none⟩) n.l.length C],.string ⟨#[117,115,101]⟩] W (j1 W false):=λW=>by
  have:=vV n (some ⟨g,off,none⟩) n.l.length C W h.s rfl (by omega);rw[xm (by rw[ho];decide)]at this;exact this
 have hR:=Vx (d:=d) (n:=n) (by rw[ho];decide) hs hn;have hot:=zp n.op;unfold zO;rw[hs,hn,show bs []=(⟨#[]⟩:ByteArray)from rfl]at hU ⊢
 obtain⟨L,hL⟩:∃L,L=n.l.length:=⟨_,rfl⟩
 rw[←hL]at hU hlen hl ⊢
 obtain⟨V0,hV0⟩:∃V,V=w.alloc (.cells #[.string (bs n.op),.string ⟨#[]⟩,.int .i64 0,.int .i64 n.a,.slice (some ⟨g,off,none⟩) L C] 24):=⟨_,rfl⟩
 have hbV:Below w.heap.size w V0:=by rw[hV0];exact zl _ _
 have hVs:V0.heap.size=w.heap.size+1:=by rw[hV0];simp
 have HB:Hid (∀W,Below V0.heap.size V0 W→zm W w.heap.size 24 #[.string (bs n.op),.string ⟨#[]⟩,.int .i64 0,.int .i64 n.a,.slice (some ⟨g,off,none⟩) L C]):=λW hW=>zm.below (by rw[hV0];exact zm.new _ _ _) hW (by omega)
 have HA:Hid (∀k W,k<L→Below V0.heap.size V0 W→yO W g (off+k*5) (zF n.l k) (Au k) (Cu k)∧jZ W (zF n.l k) (Au k) (Cu k)):=λk W hk hW=>by
  obtain⟨q1,q2⟩:=hat k (by omega);exact⟨(q1.grow hbV hg).grow hW (by omega),(q2.grow hbV).grow hW⟩
 have HU:Hid (∀W,Calls Tryz.prog 67 #[.agg #[.string (bs n.op),.string ⟨#[]⟩,.int .i64 0,.int .i64 n.a,.slice (some ⟨g,off,none⟩) L C],.string ⟨#[117,115,101]⟩] W (j1 W false)):=hU
 have HN:Hid (∀k W,k<L→Below V0.heap.size V0 W→Calls Tryz.prog 67 #[zO (zF n.l k) (Au k) (Cu k),.string ⟨#[110,117,109]⟩] W (j1 W (zP (λ_=>false) .nu (zF n.l k)))):=λk W hk hW=>by
  have hr:=(HA.out k W hk hW).2;exact xv (zF n.l k) (Au k) (zF n.l k).l.length (Cu k) W hr.s rfl (by have:=hr.len;omega)
 have HM:Hid (∀k W,k<L→Below V0.heap.size V0 W→Calls Tryz.prog 67 #[zO (zF n.l k) (Au k) (Cu k),.string ⟨#[110,97,109,101]⟩] W (j1 W (zP (λ_=>false) .na (zF n.l k)))):=λk W hk hW=>by
  have hr:=(HA.out k W hk hW).2;exact yG (zF n.l k) (Au k) (zF n.l k).l.length (Cu k) W hr.s rfl (by have:=hr.len;omega)
 have HX:Hid (∀k W,k<L→Below V0.heap.size V0 W→Calls Tryz.prog 68 #[zO (zF n.l k) (Au k) (Cu k),.int .i64 ((N:Int)+1)] W (j1 W (zo d (zF n.l k)))):=λk W hk hW=>hIH _ _ _ W (HA.out k W hk hW).2
 have hNi:¬(12:Int)<(N:Int):=by omega
 have hLi:¬(L:Int)<1:=by omega
 have HL:Hid (L=n.l.length):=hL;have hLm:L≤9223372036854775807:=by omega
 have hp:=pk2 (re:=zo d) (n:=n) (a:= .ex) (b:= .na) (by rw[ho];rfl);rw[←hL]at hp;rw[hR,hp];clear hU hat hIH h hlen hL hs hn ho;by_cases h3:L=2
 ·subst h3
  rw[show zP (zo d) .na (zF n.l 1)=zP (λ_=>false) .na (zF n.l 1)from rfl,show zP (zo d) .ex (zF n.l 0)=zo d (zF n.l 0)from rfl];cases b1:zP (λ_=>false) .na (zF n.l 1)
  ·rw[show(_:Bool)=false from(show(decide (2=2)&&(zo d (zF n.l 0)&&false))=false by simp)]
   clear hp hR;go_enter Tryz.func68,Tryz.ntmps68
   go_wp2_with (first
    |((go_at_call 67)
      refine qE 1 (.string ⟨#[117,115,101]⟩) rfl ?_;rw[←hV0];refine(HU.out _).mono ?_;rintro e w1 ⟨rfl,bk1⟩;(obtain⟨p0,p1,p2,p3,p4⟩:=ju (HB.out _ bk1)))
    |(refine zi 83 rfl ?_;refine zd (some 83) (.pointer (some ⟨g,off+1*5,none⟩)) rfl (by rfl) (zu _ _ rfl g off 1 _ C rfl rfl (by omega) _) ?_)
    |(refine zi 84 rfl ?_;refine zd (some 84) (zO (zF n.l 1) (Au 1) (Cu 1)) rfl (by rfl) (zC _ rfl g _ rfl _ (HA.out 1 _ (by omega) bk1).1) ?_)
    |((go_at_call 67)
      refine qE 0 (zO (zF n.l 1) (Au 1) (Cu 1)) rfl ?_;have hc:=HM.out 1 _ (by omega) bk1;rw[b1]at hc;refine hc.mono ?_;rintro e w2 ⟨rfl,hbw2⟩;have bw2:=bk1.trans (hbw2.mono bk1.size);(obtain⟨p0,p1,p2,p3,p4⟩:=ju (HB.out _ bw2))))
   go_ret
   exact⟨rfl,hbV.trans (bw2.mono (by omega))⟩
  ·have HF:Hid ((decide (2=2)&&(zo d (zF n.l 0)&&true))=(List.range 1).all (λj=>zo d (zF n.l j))):=(by simp[List.range_succ]:(decide (2=2)&&(zo d (zF n.l 0)&&true))=(List.range 1).all (λj=>zo d (zF n.l j)))
   generalize (decide (2=2)&&(zo d (zF n.l 0)&&true))=RES at HF ⊢;clear hp hR;go_enter Tryz.func68,Tryz.ntmps68
   go_wp2_with (first
    |((go_at_call 67)
      refine qE 1 (.string ⟨#[117,115,101]⟩) rfl ?_;rw[←hV0];refine(HU.out _).mono ?_;rintro e w1 ⟨rfl,bk1⟩;(obtain⟨p0,p1,p2,p3,p4⟩:=ju (HB.out _ bk1)))
    |(refine zi 83 rfl ?_;refine zd (some 83) (.pointer (some ⟨g,off+1*5,none⟩)) rfl (by rfl) (zu _ _ rfl g off 1 _ C rfl rfl (by omega) _) ?_)
    |(refine zi 84 rfl ?_;refine zd (some 84) (zO (zF n.l 1) (Au 1) (Cu 1)) rfl (by rfl) (zC _ rfl g _ rfl _ (HA.out 1 _ (by omega) bk1).1) ?_)
    |((go_at_call 67)
      refine qE 0 (zO (zF n.l 1) (Au 1) (Cu 1)) rfl ?_;have hc:=HM.out 1 _ (by omega) bk1;rw[b1]at hc;refine hc.mono ?_;rintro e w2 ⟨rfl,hbw2⟩;have bw2:=bk1.trans (hbw2.mono bk1.size);(obtain⟨p0,p1,p2,p3,p4⟩:=ju (HB.out _ bw2))))
   go_loopw [8] (λi wr=>∃k:Nat,k≤1∧i= .int .i64 k∧Below V0.heap.size V0 wr∧Hid (∀j,j<k→zo d (zF n.l j)=true)) (λi _=>1-(intOf i).toNat)
   case atStart=>exact⟨0,Nat.zero_le _,rfl,bw2,(λj hj=>absurd hj (Nat.not_lt_zero _):∀j,j<0→zo d (zF n.l j)=true)⟩
   case round =>
    obtain⟨k,hk,rfl,bz,HA2⟩:=hrel;obtain⟨p0,p1,p2,p3,p4⟩:=ju (HB.out _ bz);by_cases hlt:k<1
    ·have hc:=HX.out k _ (by omega) bz
     cases hr:zo d (zF n.l k)<;>rw[hr]at hc
     ·have HR2:Hid (zo d (zF n.l k)=false):=hr
      clear hr
      go_wp2_with (first
       |(refine zi 102 rfl ?_;refine zd (some 102) (.pointer (some ⟨g,off+k*5,none⟩)) rfl (by rfl) (zu _ _ rfl g off k _ C rfl rfl (by omega) _) ?_)
       |(refine zi 103 rfl ?_;refine zd (some 103) (zO (zF n.l k) (Au k) (Cu k)) rfl (by rfl) (zC _ rfl g _ rfl _ (HA.out k _ (by omega) bz).1) ?_)
       |((go_at_call 68)
         refine hc.mono ?_;(rintro e w9 ⟨rfl,hb9⟩)))
      go_ret
      refine⟨?_,hbV.trans ((bz.trans (hb9.mono bz.size)).mono (by omega))⟩;rw[HF.out,Zi hlt HR2.out];rfl
     ·have HR2:Hid (zo d (zF n.l k)=true):=hr
      clear hr
      go_wp2_with (first
       |(refine zi 102 rfl ?_;refine zd (some 102) (.pointer (some ⟨g,off+k*5,none⟩)) rfl (by rfl) (zu _ _ rfl g off k _ C rfl rfl (by omega) _) ?_)
       |(refine zi 103 rfl ?_;refine zd (some 103) (zO (zF n.l k) (Au k) (Cu k)) rfl (by rfl) (zC _ rfl g _ rfl _ (HA.out k _ (by omega) bz).1) ?_)
       |((go_at_call 68)
         refine hc.mono ?_;(rintro e w9 ⟨rfl,hb9⟩)))
      go_roundw
      case rel=>exact⟨k+1,hlt,by go_num,bz.trans (hb9.mono bz.size),(λj hj=>by
       by_cases e:j<k
       ·exact HA2.out j e
       ·obtain rfl:j=k:=by omega
        exact HR2.out:∀j,j<k+1→zo d (zF n.l j)=true)⟩
      case measure=>simp[intOf];omega
    ·obtain rfl:k=1:=by omega
     go_wp2
     go_ret
     refine⟨?_,hbV.trans (bz.mono (by omega))⟩;rw[HF.out,xC HA2.out];rfl
 ·have h3i:¬(L:Int)=2:=by omega
  rw[decide_eq_false h3,Bool.false_and];clear hp hR;go_enter Tryz.func68,Tryz.ntmps68
  go_wp2_with (first
   |((go_at_call 67)
     refine qE 1 (.string ⟨#[117,115,101]⟩) rfl ?_;rw[←hV0];refine(HU.out _).mono ?_;rintro e w1 ⟨rfl,bk1⟩;(obtain⟨p0,p1,p2,p3,p4⟩:=ju (HB.out _ bk1))))
  go_ret
  exact⟨rfl,hbV.trans (bk1.mono (by omega))⟩
theorem K7(d N:Nat)(n:Nd)(A:Option Addr)(C:Nat)(w:World)(h:jZ w n A C)(hN:N≤12)(hIH:∀m A' C' W,jZ W m A' C'→Calls Tryz.prog 68 #[zO m A' C',.int .i64 ((N:Int)+1)] W (j1 W (zo d m)))(hs:n.s= [])(hn:n.n=0)(hl:1≤n.l.length)(ho:n.op=qQ):
 Calls Tryz.prog 68 #[zO n A C,.int .i64 (N:Nat)] w (j1 w (zo (d+1) n)):=by
 have f0:(n.op== [108,105,110,101,97,114])=false:=by rw[ho];decide
 have f1:(n.op== [115,110,97,112,115,104,111,116])=false:=by rw[ho];decide
 have f2:(n.op== [99,114,121,112,116])=false:=by rw[ho];decide
 have f3:(n.op== [105,110,116,101,103,114,105,116,121])=false:=by rw[ho];decide
 have f4:(n.op== [118,101,114,105,116,121])=false:=by rw[ho];decide
 have f5:(n.op== [99,111,110,99,97,116])=true:=by rw[ho];decide
 have f6:(n.op== [109,105,114,114,111,114])=false:=by rw[ho];decide
 have hlen:=h.len;obtain⟨g,off,Au,Cu,rfl,hg,hat⟩:=jg h (by omega)
 have hU:∀W,Calls Tryz.prog 67 #[.agg #[.string (bs n.op),.string (bs n.s),.int .i64 n.n,.int .i64 n.a,.slice (some ⟨g,off,none⟩) n.l.length C],.string ⟨#[117,115,101]⟩] W (j1 W false):=λW=>by
  have:=vV n (some ⟨g,off,none⟩) n.l.length C W h.s rfl (by omega);rw[xm (by rw[ho];decide)]at this;exact this
 have hR:=Vx (d:=d) (n:=n) (by rw[ho];decide) hs hn;have hot:=zp n.op;unfold zO;rw[hs,hn,show bs []=(⟨#[]⟩:ByteArray)from rfl]at hU ⊢
 obtain⟨L,hL⟩:∃L,L=n.l.length:=⟨_,rfl⟩
 rw[←hL]at hU hlen hl ⊢
 obtain⟨V0,hV0⟩:∃V,V=w.alloc (.cells #[.string (bs n.op),.string ⟨#[]⟩,.int .i64 0,.int .i64 n.a,.slice (some ⟨g,off,none⟩) L C] 24):=⟨_,rfl⟩
 have hbV:Below w.heap.size w V0:=by rw[hV0];exact zl _ _
 have hVs:V0.heap.size=w.heap.size+1:=by rw[hV0];simp
 have HB:Hid (∀W,Below V0.heap.size V0 W→zm W w.heap.size 24 #[.string (bs n.op),.string ⟨#[]⟩,.int .i64 0,.int .i64 n.a,.slice (some ⟨g,off,none⟩) L C]):=λW hW=>zm.below (by rw[hV0];exact zm.new _ _ _) hW (by omega)
 have HA:Hid (∀k W,k<L→Below V0.heap.size V0 W→yO W g (off+k*5) (zF n.l k) (Au k) (Cu k)∧jZ W (zF n.l k) (Au k) (Cu k)):=λk W hk hW=>by
  obtain⟨q1,q2⟩:=hat k (by omega);exact⟨(q1.grow hbV hg).grow hW (by omega),(q2.grow hbV).grow hW⟩
 have HU:Hid (∀W,Calls Tryz.prog 67 #[.agg #[.string (bs n.op),.string ⟨#[]⟩,.int .i64 0,.int .i64 n.a,.slice (some ⟨g,off,none⟩) L C],.string ⟨#[117,115,101]⟩] W (j1 W false)):=hU
 have HN:Hid (∀k W,k<L→Below V0.heap.size V0 W→Calls Tryz.prog 67 #[zO (zF n.l k) (Au k) (Cu k),.string ⟨#[110,117,109]⟩] W (j1 W (zP (λ_=>false) .nu (zF n.l k)))):=λk W hk hW=>by
  have hr:=(HA.out k W hk hW).2;exact xv (zF n.l k) (Au k) (zF n.l k).l.length (Cu k) W hr.s rfl (by have:=hr.len;omega)
 have HM:Hid (∀k W,k<L→Below V0.heap.size V0 W→Calls Tryz.prog 67 #[zO (zF n.l k) (Au k) (Cu k),.string ⟨#[110,97,109,101]⟩] W (j1 W (zP (λ_=>false) .na (zF n.l k)))):=λk W hk hW=>by
  have hr:=(HA.out k W hk hW).2;exact yG (zF n.l k) (Au k) (zF n.l k).l.length (Cu k) W hr.s rfl (by have:=hr.len;omega)
 have HX:Hid (∀k W,k<L→Below V0.heap.size V0 W→Calls Tryz.prog 68 #[zO (zF n.l k) (Au k) (Cu k),.int .i64 ((N:Int)+1)] W (j1 W (zo d (zF n.l k)))):=λk W hk hW=>hIH _ _ _ W (HA.out k W hk hW).2
 have hNi:¬(12:Int)<(N:Int):=by omega
 have hLi:¬(L:Int)<1:=by omega
 have HL:Hid (L=n.l.length):=hL;have hLm:L≤9223372036854775807:=by omega
 have hp:=pkm (re:=zo d) (n:=n) (by rw[ho];rfl) (by omega);rw[←hL]at hp;rw[hR,hp]
 have HF:Hid (((List.range L).all λi=>zo d (zF n.l i))=(List.range L).all (λj=>zo d (zF n.l j))):=(rfl:((List.range L).all λi=>zo d (zF n.l i))=(List.range L).all (λj=>zo d (zF n.l j)))
 generalize hRES:((List.range L).all λi=>zo d (zF n.l i))=RES
 replace HF:Hid (RES=(List.range L).all (λj=>zo d (zF n.l j))):=(hRES.symm:RES=(List.range L).all (λj=>zo d (zF n.l j)))
 clear hRES hp hR;clear hU hat hIH h hlen hL hs hn ho;go_enter Tryz.func68,Tryz.ntmps68
 go_wp2_with (first
  |((go_at_call 67)
    refine qE 1 (.string ⟨#[117,115,101]⟩) rfl ?_;rw[←hV0];refine(HU.out _).mono ?_;rintro e w1 ⟨rfl,bk1⟩;(obtain⟨p0,p1,p2,p3,p4⟩:=ju (HB.out _ bk1))))
 go_loopw [8] (λi wr=>∃k:Nat,k≤L∧i= .int .i64 k∧Below V0.heap.size V0 wr∧Hid (∀j,j<k→zo d (zF n.l j)=true)) (λi _=>L-(intOf i).toNat)
 case atStart=>exact⟨0,Nat.zero_le _,rfl,bk1,(λj hj=>absurd hj (Nat.not_lt_zero _):∀j,j<0→zo d (zF n.l j)=true)⟩
 case round =>
  obtain⟨k,hk,rfl,bz,HA2⟩:=hrel;obtain⟨p0,p1,p2,p3,p4⟩:=ju (HB.out _ bz);by_cases hlt:k<L
  ·have hc:=HX.out k _ (by omega) bz
   cases hr:zo d (zF n.l k)<;>rw[hr]at hc
   ·have HR2:Hid (zo d (zF n.l k)=false):=hr
    clear hr
    go_wp2_with (first
     |(refine zi 102 rfl ?_;refine zd (some 102) (.pointer (some ⟨g,off+k*5,none⟩)) rfl (by rfl) (zu _ _ rfl g off k _ C rfl rfl (by omega) _) ?_)
     |(refine zi 103 rfl ?_;refine zd (some 103) (zO (zF n.l k) (Au k) (Cu k)) rfl (by rfl) (zC _ rfl g _ rfl _ (HA.out k _ (by omega) bz).1) ?_)
     |((go_at_call 68)
       refine hc.mono ?_;(rintro e w9 ⟨rfl,hb9⟩)))
    go_ret
    refine⟨?_,hbV.trans ((bz.trans (hb9.mono bz.size)).mono (by omega))⟩;rw[HF.out,Zi hlt HR2.out];rfl
   ·have HR2:Hid (zo d (zF n.l k)=true):=hr
    clear hr
    go_wp2_with (first
     |(refine zi 102 rfl ?_;refine zd (some 102) (.pointer (some ⟨g,off+k*5,none⟩)) rfl (by rfl) (zu _ _ rfl g off k _ C rfl rfl (by omega) _) ?_)
     |(refine zi 103 rfl ?_;refine zd (some 103) (zO (zF n.l k) (Au k) (Cu k)) rfl (by rfl) (zC _ rfl g _ rfl _ (HA.out k _ (by omega) bz).1) ?_)
     |((go_at_call 68)
       refine hc.mono ?_;(rintro e w9 ⟨rfl,hb9⟩)))
    go_roundw
    case rel=>exact⟨k+1,hlt,by go_num,bz.trans (hb9.mono bz.size),(λj hj=>by
     by_cases e:j<k
     ·exact HA2.out j e
     ·obtain rfl:j=k:=by omega
      exact HR2.out:∀j,j<k+1→zo d (zF n.l j)=true)⟩
    case measure=>simp[intOf];omega
  ·obtain rfl:k=L:=by omega
   go_wp2
   go_ret
   refine⟨?_,hbV.trans (bz.mono (by omega))⟩;rw[HF.out,xC HA2.out];rfl
theorem kL(d N:Nat)(n:Nd)(A:Option Addr)(C:Nat)(w:World)(h:jZ w n A C)(hN:N≤12)(hIH:∀m A' C' W,jZ W m A' C'→Calls Tryz.prog 68 #[zO m A' C',.int .i64 ((N:Int)+1)] W (j1 W (zo d m)))(hs:n.s= [])(hn:n.n=0)(hl:1≤n.l.length)(ho:n.op=je):
 Calls Tryz.prog 68 #[zO n A C,.int .i64 (N:Nat)] w (j1 w (zo (d+1) n)):=by
 have f0:(n.op== [108,105,110,101,97,114])=false:=by rw[ho];decide
 have f1:(n.op== [115,110,97,112,115,104,111,116])=false:=by rw[ho];decide
 have f2:(n.op== [99,114,121,112,116])=false:=by rw[ho];decide
 have f3:(n.op== [105,110,116,101,103,114,105,116,121])=false:=by rw[ho];decide
 have f4:(n.op== [118,101,114,105,116,121])=false:=by rw[ho];decide
 have f5:(n.op== [99,111,110,99,97,116])=false:=by rw[ho];decide
 have f6:(n.op== [109,105,114,114,111,114])=true:=by rw[ho];decide
 have hlen:=h.len;obtain⟨g,off,Au,Cu,rfl,hg,hat⟩:=jg h (by omega)
 have hU:∀W,Calls Tryz.prog 67 #[.agg #[.string (bs n.op),.string (bs n.s),.int .i64 n.n,.int .i64 n.a,.slice (some ⟨g,off,none⟩) n.l.length C],.string ⟨#[117,115,101]⟩] W (j1 W false):=λW=>by
  have:=vV n (some ⟨g,off,none⟩) n.l.length C W h.s rfl (by omega);rw[xm (by rw[ho];decide)]at this;exact this
 have hR:=Vx (d:=d) (n:=n) (by rw[ho];decide) hs hn;have hot:=zp n.op;unfold zO;rw[hs,hn,show bs []=(⟨#[]⟩:ByteArray)from rfl]at hU ⊢
 obtain⟨L,hL⟩:∃L,L=n.l.length:=⟨_,rfl⟩
 rw[←hL]at hU hlen hl ⊢
 obtain⟨V0,hV0⟩:∃V,V=w.alloc (.cells #[.string (bs n.op),.string ⟨#[]⟩,.int .i64 0,.int .i64 n.a,.slice (some ⟨g,off,none⟩) L C] 24):=⟨_,rfl⟩
 have hbV:Below w.heap.size w V0:=by rw[hV0];exact zl _ _
 have hVs:V0.heap.size=w.heap.size+1:=by rw[hV0];simp
 have HB:Hid (∀W,Below V0.heap.size V0 W→zm W w.heap.size 24 #[.string (bs n.op),.string ⟨#[]⟩,.int .i64 0,.int .i64 n.a,.slice (some ⟨g,off,none⟩) L C]):=λW hW=>zm.below (by rw[hV0];exact zm.new _ _ _) hW (by omega)
 have HA:Hid (∀k W,k<L→Below V0.heap.size V0 W→yO W g (off+k*5) (zF n.l k) (Au k) (Cu k)∧jZ W (zF n.l k) (Au k) (Cu k)):=λk W hk hW=>by
  obtain⟨q1,q2⟩:=hat k (by omega);exact⟨(q1.grow hbV hg).grow hW (by omega),(q2.grow hbV).grow hW⟩
 have HU:Hid (∀W,Calls Tryz.prog 67 #[.agg #[.string (bs n.op),.string ⟨#[]⟩,.int .i64 0,.int .i64 n.a,.slice (some ⟨g,off,none⟩) L C],.string ⟨#[117,115,101]⟩] W (j1 W false)):=hU
 have HN:Hid (∀k W,k<L→Below V0.heap.size V0 W→Calls Tryz.prog 67 #[zO (zF n.l k) (Au k) (Cu k),.string ⟨#[110,117,109]⟩] W (j1 W (zP (λ_=>false) .nu (zF n.l k)))):=λk W hk hW=>by
  have hr:=(HA.out k W hk hW).2;exact xv (zF n.l k) (Au k) (zF n.l k).l.length (Cu k) W hr.s rfl (by have:=hr.len;omega)
 have HM:Hid (∀k W,k<L→Below V0.heap.size V0 W→Calls Tryz.prog 67 #[zO (zF n.l k) (Au k) (Cu k),.string ⟨#[110,97,109,101]⟩] W (j1 W (zP (λ_=>false) .na (zF n.l k)))):=λk W hk hW=>by
  have hr:=(HA.out k W hk hW).2;exact yG (zF n.l k) (Au k) (zF n.l k).l.length (Cu k) W hr.s rfl (by have:=hr.len;omega)
 have HX:Hid (∀k W,k<L→Below V0.heap.size V0 W→Calls Tryz.prog 68 #[zO (zF n.l k) (Au k) (Cu k),.int .i64 ((N:Int)+1)] W (j1 W (zo d (zF n.l k)))):=λk W hk hW=>hIH _ _ _ W (HA.out k W hk hW).2
 have hNi:¬(12:Int)<(N:Int):=by omega
 have hLi:¬(L:Int)<1:=by omega
 have HL:Hid (L=n.l.length):=hL;have hLm:L≤9223372036854775807:=by omega
 have hp:=pkm (re:=zo d) (n:=n) (by rw[ho];rfl) (by omega);rw[←hL]at hp;rw[hR,hp]
 have HF:Hid (((List.range L).all λi=>zo d (zF n.l i))=(List.range L).all (λj=>zo d (zF n.l j))):=(rfl:((List.range L).all λi=>zo d (zF n.l i))=(List.range L).all (λj=>zo d (zF n.l j)))
 generalize hRES:((List.range L).all λi=>zo d (zF n.l i))=RES
 replace HF:Hid (RES=(List.range L).all (λj=>zo d (zF n.l j))):=(hRES.symm:RES=(List.range L).all (λj=>zo d (zF n.l j)))
 clear hRES hp hR;clear hU hat hIH h hlen hL hs hn ho;go_enter Tryz.func68,Tryz.ntmps68
 go_wp2_with (first
  |((go_at_call 67)
    refine qE 1 (.string ⟨#[117,115,101]⟩) rfl ?_;rw[←hV0];refine(HU.out _).mono ?_;rintro e w1 ⟨rfl,bk1⟩;(obtain⟨p0,p1,p2,p3,p4⟩:=ju (HB.out _ bk1))))
 go_loopw [8] (λi wr=>∃k:Nat,k≤L∧i= .int .i64 k∧Below V0.heap.size V0 wr∧Hid (∀j,j<k→zo d (zF n.l j)=true)) (λi _=>L-(intOf i).toNat)
 case atStart=>exact⟨0,Nat.zero_le _,rfl,bk1,(λj hj=>absurd hj (Nat.not_lt_zero _):∀j,j<0→zo d (zF n.l j)=true)⟩
 case round =>
  obtain⟨k,hk,rfl,bz,HA2⟩:=hrel;obtain⟨p0,p1,p2,p3,p4⟩:=ju (HB.out _ bz);by_cases hlt:k<L
  ·have hc:=HX.out k _ (by omega) bz
   cases hr:zo d (zF n.l k)<;>rw[hr]at hc
   ·have HR2:Hid (zo d (zF n.l k)=false):=hr
    clear hr
    go_wp2_with (first
     |(refine zi 102 rfl ?_;refine zd (some 102) (.pointer (some ⟨g,off+k*5,none⟩)) rfl (by rfl) (zu _ _ rfl g off k _ C rfl rfl (by omega) _) ?_)
     |(refine zi 103 rfl ?_;refine zd (some 103) (zO (zF n.l k) (Au k) (Cu k)) rfl (by rfl) (zC _ rfl g _ rfl _ (HA.out k _ (by omega) bz).1) ?_)
     |((go_at_call 68)
       refine hc.mono ?_;(rintro e w9 ⟨rfl,hb9⟩)))
    go_ret
    refine⟨?_,hbV.trans ((bz.trans (hb9.mono bz.size)).mono (by omega))⟩;rw[HF.out,Zi hlt HR2.out];rfl
   ·have HR2:Hid (zo d (zF n.l k)=true):=hr
    clear hr
    go_wp2_with (first
     |(refine zi 102 rfl ?_;refine zd (some 102) (.pointer (some ⟨g,off+k*5,none⟩)) rfl (by rfl) (zu _ _ rfl g off k _ C rfl rfl (by omega) _) ?_)
     |(refine zi 103 rfl ?_;refine zd (some 103) (zO (zF n.l k) (Au k) (Cu k)) rfl (by rfl) (zC _ rfl g _ rfl _ (HA.out k _ (by omega) bz).1) ?_)
     |((go_at_call 68)
       refine hc.mono ?_;(rintro e w9 ⟨rfl,hb9⟩)))
    go_roundw
    case rel=>exact⟨k+1,hlt,by go_num,bz.trans (hb9.mono bz.size),(λj hj=>by
     by_cases e:j<k
     ·exact HA2.out j e
     ·obtain rfl:j=k:=by omega
      exact HR2.out:∀j,j<k+1→zo d (zF n.l j)=true)⟩
    case measure=>simp[intOf];omega
  ·obtain rfl:k=L:=by omega
   go_wp2
   go_ret
   refine⟨?_,hbV.trans (bz.mono (by omega))⟩;rw[HF.out,xC HA2.out];rfl
theorem fJ(n:Nd)(A:Option Addr)(C:Nat)(w:World)(h:jZ w n A C):Calls Tryz.prog 68 #[zO n A C,.int .i64 13] w (j1 w false):=by
 have hlen:=h.len;have hU:=λW=>vV n A n.l.length C W h.s rfl (by omega)
 have hU:∀W,Calls Tryz.prog 67 #[.agg #[.string (bs n.op),.string (bs n.s),.int .i64 n.n,.int .i64 n.a,.slice A n.l.length C],.string ⟨#[117,115,101]⟩] W (j1 W (Zd n)):=hU;unfold zO;generalize Zd n=U at hU;generalize n.l.length=L at *;clear hlen h;cases U
 ·go_enter Tryz.func68,Tryz.ntmps68
  go_wp2_with (first
   |((go_at_call 67)
     refine(hU _).mono ?_;(rintro e w1 ⟨rfl,bk1⟩)))
  go_ret
  exact⟨rfl,qr bk1⟩
 ·go_enter Tryz.func68,Tryz.ntmps68
  go_wp2_with (first
   |((go_at_call 67)
     refine(hU _).mono ?_;(rintro e w1 ⟨rfl,bk1⟩)))
  go_ret
  exact⟨rfl,qr bk1⟩
theorem zbt(N:Nat)(n:Nd)(A:Option Addr)(C:Nat)(w:World)(h:jZ w n A C)(hN:N≤12)(hu:Zd n=true):Calls Tryz.prog 68 #[zO n A C,.int .i64 (N:Nat)] w (j1 w true):=by
 have hlen:=h.len;have hU:=λW=>vV n A n.l.length C W h.s rfl (by omega)
 rw[hu]at hU;have hU:∀W,Calls Tryz.prog 67 #[.agg #[.string (bs n.op),.string (bs n.s),.int .i64 n.n,.int .i64 n.a,.slice A n.l.length C],.string ⟨#[117,115,101]⟩] W (j1 W true):=hU;unfold zO;have hNi:(N:Int)≤12:=by omega
 generalize n.l.length=L at *;clear hlen h hu;go_enter Tryz.func68,Tryz.ntmps68
 go_wp2_with (first
  |((go_at_call 67)
    refine(hU _).mono ?_;(rintro e w1 ⟨rfl,bk1⟩)))
 go_ret
 exact⟨rfl,qr bk1⟩
theorem Vm(N:Nat)(n:Nd)(A:Option Addr)(C:Nat)(w:World)(h:jZ w n A C)(hN:N≤12)(hu:Zd n=false)(hc:n.s≠ []∨(n.s= []∧n.n≠0)∨(n.s= []∧n.n=0∧n.l.length=0)∨(n.s= []∧n.n=0∧1≤n.l.length∧(n.op≠qX∧n.op≠qv∧n.op≠jl∧n.op≠qb∧n.op≠jf∧n.op≠qQ∧n.op≠je))):Calls Tryz.prog 68 #[zO n A C,.int .i64 (N:Nat)] w (j1 w false):=by
 have hlen:=h.len;have hU:=λW=>vV n A n.l.length C W h.s rfl (by omega)
 rw[hu]at hU;have hU:∀W,Calls Tryz.prog 67 #[.agg #[.string (bs n.op),.string (bs n.s),.int .i64 n.n,.int .i64 n.a,.slice A n.l.length C],.string ⟨#[117,115,101]⟩] W (j1 W false):=hU;unfold zO;have hNi:¬(12:Int)<(N:Int):=by omega
 have hot:=zp n.op;have hst:=zp n.s;have hLm:n.l.length≤9223372036854775807:=by omega
 rcases hc with h1|⟨h1,h2⟩|⟨h1,h2,h3⟩|⟨h1,h2,h3,h4⟩
 ·have h1':(n.s== [])=false:=by simpa using h1
  generalize n.l.length=L at *;clear hlen h hu h1;go_enter Tryz.func68,Tryz.ntmps68
  go_wp2_with (first
   |((go_at_call 67)
     refine(hU _).mono ?_;rintro e w1 ⟨rfl,bk1⟩;(obtain⟨p0,p1,p2,p3,p4⟩:=ju ((zm.new w _ _).below bk1 (by simp)))))
  go_ret
  exact⟨rfl,qr bk1⟩
 ·rw[h1,show bs []=(⟨#[]⟩:ByteArray)from rfl]at hU ⊢
  generalize n.l.length=L at *;generalize n.n=M at *;clear hlen h hu h1 hst;go_enter Tryz.func68,Tryz.ntmps68
  go_wp2_with (first
   |((go_at_call 67)
     refine(hU _).mono ?_;rintro e w1 ⟨rfl,bk1⟩;(obtain⟨p0,p1,p2,p3,p4⟩:=ju ((zm.new w _ _).below bk1 (by simp)))))
  go_ret
  exact⟨rfl,qr bk1⟩
 ·rw[h1,h2,h3,show bs []=(⟨#[]⟩:ByteArray)from rfl]at hU ⊢
  clear hlen h hu h1 h2 h3 hst hLm;go_enter Tryz.func68,Tryz.ntmps68
  go_wp2_with (first
   |((go_at_call 67)
     refine(hU _).mono ?_;rintro e w1 ⟨rfl,bk1⟩;(obtain⟨p0,p1,p2,p3,p4⟩:=ju ((zm.new w _ _).below bk1 (by simp)))))
  go_ret
  exact⟨rfl,qr bk1⟩
 ·rw[h1,h2,show bs []=(⟨#[]⟩:ByteArray)from rfl]at hU ⊢
  obtain⟨o1,o2,o3,o4,o5,o6,o7⟩:=h4;have f0:(n.op== [108,105,110,101,97,114])=false:=by simpa [qX]using o1
  have f1:(n.op== [115,110,97,112,115,104,111,116])=false:=by simpa [qv]using o2
  have f2:(n.op== [99,114,121,112,116])=false:=by simpa [jl]using o3
  have f3:(n.op== [105,110,116,101,103,114,105,116,121])=false:=by simpa [qb]using o4
  have f4:(n.op== [118,101,114,105,116,121])=false:=by simpa [jf]using o5
  have f5:(n.op== [99,111,110,99,97,116])=false:=by simpa [qQ]using o6
  have f6:(n.op== [109,105,114,114,111,114])=false:=by simpa [je]using o7
  have hLi:¬(n.l.length:Int)<1:=by omega
  generalize n.l.length=L at *;clear hlen h hu h1 h2 hst o1 o2 o3 o4 o5 o6 o7 h3;go_enter Tryz.func68,Tryz.ntmps68
  go_wp2_with (first
   |((go_at_call 67)
     refine(hU _).mono ?_;rintro e w1 ⟨rfl,bk1⟩;(obtain⟨p0,p1,p2,p3,p4⟩:=ju ((zm.new w _ _).below bk1 (by simp)))))
  go_ret
  exact⟨rfl,qr bk1⟩
theorem zcZ(d:Nat):∀(N:Nat) (n:Nd) (A:Option Addr) (C:Nat) (w:World),N+d=13→jZ w n A C→Calls Tryz.prog 68 #[zO n A C,.int .i64 (N:Nat)] w (j1 w (zo d n)):=by
 induction d with
 |zero =>
  intro N n A C w hN h;obtain rfl:N=13:=by omega
  exact fJ n A C w h
 |succ d ih =>
  intro N n A C w hN h
  have hIH:∀m A' C' W,jZ W m A' C'→Calls Tryz.prog 68 #[zO m A' C',.int .i64 ((N:Int)+1)] W (j1 W (zo d m)):=λm A' C' W hW=>by
   have:=ih (N+1) m A' C' W (by omega) hW;rw[show((N+1:Nat):Int)=(N:Int)+1 by omega]at this;exact this
  cases hu:Zd n with
  |true=>rw[zcy hu];exact zbt N n A C w h (by omega) hu
  |false =>
   by_cases h1:n.s= []
   ·by_cases h2:n.n=0
    ·by_cases h3:n.l.length=0
     ·rw[KT hu (Do h3)]
      exact Vm N n A C w h (by omega) hu (.inr (.inr (.inl ⟨h1,h2,h3⟩)))
     ·have h3':1≤n.l.length:=by omega
      by_cases o1:n.op=qX
      ·exact Um d N n A C w h (by omega) hIH h1 h2 h3' o1
      by_cases o2:n.op=qv
      ·exact YB d N n A C w h (by omega) hIH h1 h2 h3' o2
      by_cases o3:n.op=jl
      ·exact uL d N n A C w h (by omega) hIH h1 h2 h3' o3
      by_cases o4:n.op=qb
      ·exact Vt d N n A C w h (by omega) hIH h1 h2 h3' o4
      by_cases o5:n.op=jf
      ·exact kV d N n A C w h (by omega) hIH h1 h2 h3' o5
      by_cases o6:n.op=qQ
      ·exact K7 d N n A C w h (by omega) hIH h1 h2 h3' o6
      by_cases o7:n.op=je
      ·exact kL d N n A C w h (by omega) hIH h1 h2 h3' o7
      rw[KT hu (zax (zcY ⟨o1,o2,o3,o4,o5,o6,o7⟩))];exact Vm N n A C w h (by omega) hu (.inr (.inr (.inr ⟨h1,h2,h3',o1,o2,o3,o4,o5,o6,o7⟩)))
    ·rw[zdi h2]
     exact Vm N n A C w h (by omega) hu (.inr (.inl ⟨h1,h2⟩))
   ·rw[zdd hu h1]
    exact Vm N n A C w h (by omega) hu (.inl h1)
theorem dT{n:Nd}(hnm:jq n.s=true)(ho:n.op=zn∨n.op=zq):qS n=(j8 n.n&&decide (n.l.length=0)):=by
 unfold qS;rw[hnm,if_pos ho];rfl
theorem fT{n:Nd}(hnm:jq n.s=true)(ho:n.op=zM∨n.op=zN):qS n=(decide (n.n=0)&&decide (n.l.length=1)&&yt (zF n.l 0)):=by
 unfold qS;rw[hnm,if_neg (by rcases ho with h|h<;>rw[h]<;>decide),if_pos ho];rfl
theorem zcz{n:Nd}(hnm:jq n.s=true)(ho:n.op=zB):qS n=(decide (n.n=0)&&decide (n.l.length=1)&&zo 12 (zF n.l 0)):=by
 unfold qS;rw[hnm,if_neg (by rw[ho];decide),if_neg (by rw[ho];decide),if_pos ho];rfl
theorem zbK{n:Nd}(hnm:jq n.s=true)(ho:n.op=qj):qS n=((decide (n.n=0)||decide (n.n=1))&&decide (n.l.length=0)):=by
 unfold qS;rw[hnm,if_neg (by rw[ho];decide),if_neg (by rw[ho];decide),if_neg (by rw[ho];decide),if_pos ho];rfl
theorem zc3{n:Nd}(ho:n.op≠zn∧n.op≠zq∧n.op≠zM∧n.op≠zN∧n.op≠zB∧n.op≠qj):qS n=false:=by
 obtain⟨h1,h2,h3,h4,h5,h6⟩:=ho;unfold qS;rw[if_neg (by rintro(h|h);exact h1 h;exact h2 h),if_neg (by rintro(h|h);exact h3 h;exact h4 h),if_neg h5,if_neg h6];simp
theorem kR(n:Nd)(A:Option Addr)(C:Nat)(w:World)(h:jZ w n A C)(hnm:jq n.s=true)(ho:n.op=zn):Calls Tryz.prog 38 #[zO n A C] w (j1 w (qS n)):=by
 have f0:(n.op== [100,101,118,105,99,101])=true:=by rw[ho];decide
 have f1:(n.op== [106,111,117,114,110,97,108])=false:=by rw[ho];decide
 have f2:(n.op== [107,101,121])=false:=by rw[ho];decide
 have f3:(n.op== [114,111,111,116])=false:=by rw[ho];decide
 have f4:(n.op== [118,111,108,117,109,101])=false:=by rw[ho];decide
 have f5:(n.op== [101,120,112,111,114,116])=false:=by rw[ho];decide
 have hlen:=h.len;have hNm:=λW=>xy n.s W (by have:=h.s;omega)
 have hot:=zp n.op;unfold zO
 obtain⟨L,hL⟩:∃L,L=n.l.length:=⟨_,rfl⟩
 rw[←hL]at hlen ⊢;have hLm:L≤9223372036854775807:=by omega
 obtain⟨M,hMe⟩:∃M,M=n.n:=⟨_,rfl⟩
 have hB:=dT hnm (.inl ho);rw[←hL,←hMe]at hB;rw[←hMe,hB];rw[hnm]at hNm;clear hB hL hMe h hlen ho hnm;by_cases hL0:L=0
 ·subst hL0
  rcases(by omega:M<0∨(0≤M∧¬M≤999999999)∨(0≤M∧M≤999999999))with h1|⟨h1,h2⟩|⟨h1,h2⟩
  ·rw[show j8 M=false by unfold j8;simp;omega,Bool.false_and]
   go_enter Tryz.func38,Tryz.ntmps38
   go_wp2_with (first
    |((go_at_call 66)
      refine(hNm _).mono ?_;rintro e w1 ⟨rfl,bk1⟩;(obtain⟨p0,p1,p2,p3,p4⟩:=ju ((zm.new w _ _).below bk1 (by simp))))
   )
   go_ret
   exact⟨rfl,qr bk1⟩
  ·rw[show j8 M=false by unfold j8;simp;omega,Bool.false_and]
   have h3:=decide_eq_false h2;go_enter Tryz.func38,Tryz.ntmps38
   go_wp2_with (first
    |((go_at_call 66)
      refine(hNm _).mono ?_;rintro e w1 ⟨rfl,bk1⟩;(obtain⟨p0,p1,p2,p3,p4⟩:=ju ((zm.new w _ _).below bk1 (by simp))))
   )
   go_ret
   exact⟨rfl,qr bk1⟩
  ·rw[show j8 M=true by unfold j8;simp;omega,show(true&&decide ((0:Nat)=0))=true from rfl]
   go_enter Tryz.func38,Tryz.ntmps38
   go_wp2_with (first
    |((go_at_call 66)
      refine(hNm _).mono ?_;rintro e w1 ⟨rfl,bk1⟩;(obtain⟨p0,p1,p2,p3,p4⟩:=ju ((zm.new w _ _).below bk1 (by simp))))
   )
   go_ret
   exact⟨rfl,qr bk1⟩
 ·have hLi:¬(L:Int)=0:=by omega
  rw[decide_eq_false hL0,Bool.and_false];go_enter Tryz.func38,Tryz.ntmps38
  go_wp2_with (first
   |((go_at_call 66)
     refine(hNm _).mono ?_;rintro e w1 ⟨rfl,bk1⟩;(obtain⟨p0,p1,p2,p3,p4⟩:=ju ((zm.new w _ _).below bk1 (by simp))))
  )
  go_ret
  exact⟨rfl,qr bk1⟩
theorem XR(n:Nd)(A:Option Addr)(C:Nat)(w:World)(h:jZ w n A C)(hnm:jq n.s=true)(ho:n.op=zq):Calls Tryz.prog 38 #[zO n A C] w (j1 w (qS n)):=by
 have f0:(n.op== [100,101,118,105,99,101])=false:=by rw[ho];decide
 have f1:(n.op== [106,111,117,114,110,97,108])=true:=by rw[ho];decide
 have f2:(n.op== [107,101,121])=false:=by rw[ho];decide
 have f3:(n.op== [114,111,111,116])=false:=by rw[ho];decide
 have f4:(n.op== [118,111,108,117,109,101])=false:=by rw[ho];decide
 have f5:(n.op== [101,120,112,111,114,116])=false:=by rw[ho];decide
 have hlen:=h.len;have hNm:=λW=>xy n.s W (by have:=h.s;omega)
 have hot:=zp n.op;unfold zO
 obtain⟨L,hL⟩:∃L,L=n.l.length:=⟨_,rfl⟩
 rw[←hL]at hlen ⊢;have hLm:L≤9223372036854775807:=by omega
 obtain⟨M,hMe⟩:∃M,M=n.n:=⟨_,rfl⟩
 have hB:=dT hnm (.inr ho);rw[←hL,←hMe]at hB;rw[←hMe,hB];rw[hnm]at hNm;clear hB hL hMe h hlen ho hnm;by_cases hL0:L=0
 ·subst hL0
  rcases(by omega:M<0∨(0≤M∧¬M≤999999999)∨(0≤M∧M≤999999999))with h1|⟨h1,h2⟩|⟨h1,h2⟩
  ·rw[show j8 M=false by unfold j8;simp;omega,Bool.false_and]
   go_enter Tryz.func38,Tryz.ntmps38
   go_wp2_with (first
    |((go_at_call 66)
      refine(hNm _).mono ?_;rintro e w1 ⟨rfl,bk1⟩;(obtain⟨p0,p1,p2,p3,p4⟩:=ju ((zm.new w _ _).below bk1 (by simp))))
   )
   go_ret
   exact⟨rfl,qr bk1⟩
  ·rw[show j8 M=false by unfold j8;simp;omega,Bool.false_and]
   have h3:=decide_eq_false h2;go_enter Tryz.func38,Tryz.ntmps38
   go_wp2_with (first
    |((go_at_call 66)
      refine(hNm _).mono ?_;rintro e w1 ⟨rfl,bk1⟩;(obtain⟨p0,p1,p2,p3,p4⟩:=ju ((zm.new w _ _).below bk1 (by simp))))
   )
   go_ret
   exact⟨rfl,qr bk1⟩
  ·rw[show j8 M=true by unfold j8;simp;omega,show(true&&decide ((0:Nat)=0))=true from rfl]
   go_enter Tryz.func38,Tryz.ntmps38
   go_wp2_with (first
    |((go_at_call 66)
      refine(hNm _).mono ?_;rintro e w1 ⟨rfl,bk1⟩;(obtain⟨p0,p1,p2,p3,p4⟩:=ju ((zm.new w _ _).below bk1 (by simp))))
   )
   go_ret
   exact⟨rfl,qr bk1⟩
 ·have hLi:¬(L:Int)=0:=by omega
  rw[decide_eq_false hL0,Bool.and_false];go_enter Tryz.func38,Tryz.ntmps38
  go_wp2_with (first
   |((go_at_call 66)
     refine(hNm _).mono ?_;rintro e w1 ⟨rfl,bk1⟩;(obtain⟨p0,p1,p2,p3,p4⟩:=ju ((zm.new w _ _).below bk1 (by simp))))
  )
  go_ret
  exact⟨rfl,qr bk1⟩
theorem DS(n:Nd)(A:Option Addr)(C:Nat)(w:World)(h:jZ w n A C)(hnm:jq n.s=true)(ho:n.op=zM):Calls Tryz.prog 38 #[zO n A C] w (j1 w (qS n)):=by
 have f0:(n.op== [100,101,118,105,99,101])=false:=by rw[ho];decide
 have f1:(n.op== [106,111,117,114,110,97,108])=false:=by rw[ho];decide
 have f2:(n.op== [107,101,121])=true:=by rw[ho];decide
 have f3:(n.op== [114,111,111,116])=false:=by rw[ho];decide
 have f4:(n.op== [118,111,108,117,109,101])=false:=by rw[ho];decide
 have f5:(n.op== [101,120,112,111,114,116])=false:=by rw[ho];decide
 have hlen:=h.len;have hNm:=λW=>xy n.s W (by have:=h.s;omega)
 have hot:=zp n.op;unfold zO
 obtain⟨L,hL⟩:∃L,L=n.l.length:=⟨_,rfl⟩
 rw[←hL]at hlen ⊢;have hLm:L≤9223372036854775807:=by omega
 obtain⟨M,hMe⟩:∃M,M=n.n:=⟨_,rfl⟩
 have hB:=fT hnm (.inl ho);rw[←hL,←hMe]at hB;rw[←hMe,hB];rw[hnm]at hNm;by_cases hM:M=0
 ·subst hM
  by_cases hL1:L=1
  ·obtain⟨g,off,Au,Cu,rfl,hg,hat⟩:=jg h (by omega)
   obtain⟨q1,q2⟩:=hat 0 (by omega);have hc:∀W,Below w.heap.size w W→Calls Tryz.prog 67 #[zO (zF n.l 0) (Au 0) (Cu 0),.string ⟨#[104,101,120]⟩] W (j1 W (yt (zF n.l 0))):=λW hW=>Y6 (zF n.l 0) (Au 0) (zF n.l 0).l.length (Cu 0) W (q2.grow hW).s rfl (by have:=q2.len;omega)
   have hld:∀W,Below w.heap.size w W→yO W g (off+0*5) (zF n.l 0) (Au 0) (Cu 0):=λW hW=>q1.grow hW hg
   have HLD:Hid (∀W,Below w.heap.size w W→yO W g (off+0*5) (zF n.l 0) (Au 0) (Cu 0)):=hld;subst hL1;generalize yt (zF n.l 0)=R at hc ⊢;rw[show(decide ((0:Int)=0)&&decide ((1:Nat)=1)&&R)=R by cases R<;>rfl];have HC:Hid (∀W,Below w.heap.size w W→Calls Tryz.prog 67 #[zO (zF n.l 0) (Au 0) (Cu 0),.string ⟨#[104,101,120]⟩] W (j1 W R)):=hc;clear hB hL hMe h hlen ho hnm hc hld hat q1 q2;go_enter Tryz.func38,Tryz.ntmps38
   go_wp2_with (first
    |((go_at_call 66)
      refine(hNm _).mono ?_;rintro e w1 ⟨rfl,bk1⟩;(obtain⟨p0,p1,p2,p3,p4⟩:=ju ((zm.new w _ _).below bk1 (by simp))))
    |(refine zi 43 rfl ?_;refine zd (some 43) (.pointer (some ⟨g,off+0*5,none⟩)) rfl (by rfl) (zu _ _ rfl g off 0 _ C rfl rfl (by omega) _) ?_)
    |(refine zi 44 rfl ?_;refine zd (some 44) (zO (zF n.l 0) (Au 0) (Cu 0)) rfl (by rfl) (zC _ rfl g _ rfl _ (HLD.out _ (qr bk1))) ?_)
    |((go_at_call 67)
      refine(HC.out _ (qr bk1)).mono ?_;(rintro e w2 ⟨rfl,bk2⟩)))
   go_ret
   exact⟨rfl,(qr bk1).trans (bk2.mono (qr bk1).size)⟩
  ·have hLi:¬(L:Int)=1:=by omega
   rw[decide_eq_false hL1,Bool.and_false,Bool.false_and];clear hB hL hMe h hlen ho hnm;go_enter Tryz.func38,Tryz.ntmps38
   go_wp2_with (first
    |((go_at_call 66)
      refine(hNm _).mono ?_;rintro e w1 ⟨rfl,bk1⟩;(obtain⟨p0,p1,p2,p3,p4⟩:=ju ((zm.new w _ _).below bk1 (by simp))))
   )
   go_ret
   exact⟨rfl,qr bk1⟩
 ·have hMb:(M==0)=false:=by simpa using hM
  rw[decide_eq_false hM,Bool.false_and,Bool.false_and];clear hB hL hMe h hlen ho hnm;go_enter Tryz.func38,Tryz.ntmps38
  go_wp2_with (first
   |((go_at_call 66)
     refine(hNm _).mono ?_;rintro e w1 ⟨rfl,bk1⟩;(obtain⟨p0,p1,p2,p3,p4⟩:=ju ((zm.new w _ _).below bk1 (by simp))))
  )
  go_ret
  exact⟨rfl,qr bk1⟩
theorem gS(n:Nd)(A:Option Addr)(C:Nat)(w:World)(h:jZ w n A C)(hnm:jq n.s=true)(ho:n.op=zN):Calls Tryz.prog 38 #[zO n A C] w (j1 w (qS n)):=by
 have f0:(n.op== [100,101,118,105,99,101])=false:=by rw[ho];decide
 have f1:(n.op== [106,111,117,114,110,97,108])=false:=by rw[ho];decide
 have f2:(n.op== [107,101,121])=false:=by rw[ho];decide
 have f3:(n.op== [114,111,111,116])=true:=by rw[ho];decide
 have f4:(n.op== [118,111,108,117,109,101])=false:=by rw[ho];decide
 have f5:(n.op== [101,120,112,111,114,116])=false:=by rw[ho];decide
 have hlen:=h.len;have hNm:=λW=>xy n.s W (by have:=h.s;omega)
 have hot:=zp n.op;unfold zO
 obtain⟨L,hL⟩:∃L,L=n.l.length:=⟨_,rfl⟩
 rw[←hL]at hlen ⊢;have hLm:L≤9223372036854775807:=by omega
 obtain⟨M,hMe⟩:∃M,M=n.n:=⟨_,rfl⟩
 have hB:=fT hnm (.inr ho);rw[←hL,←hMe]at hB;rw[←hMe,hB];rw[hnm]at hNm;by_cases hM:M=0
 ·subst hM
  by_cases hL1:L=1
  ·obtain⟨g,off,Au,Cu,rfl,hg,hat⟩:=jg h (by omega)
   obtain⟨q1,q2⟩:=hat 0 (by omega);have hc:∀W,Below w.heap.size w W→Calls Tryz.prog 67 #[zO (zF n.l 0) (Au 0) (Cu 0),.string ⟨#[104,101,120]⟩] W (j1 W (yt (zF n.l 0))):=λW hW=>Y6 (zF n.l 0) (Au 0) (zF n.l 0).l.length (Cu 0) W (q2.grow hW).s rfl (by have:=q2.len;omega)
   have hld:∀W,Below w.heap.size w W→yO W g (off+0*5) (zF n.l 0) (Au 0) (Cu 0):=λW hW=>q1.grow hW hg
   have HLD:Hid (∀W,Below w.heap.size w W→yO W g (off+0*5) (zF n.l 0) (Au 0) (Cu 0)):=hld;subst hL1;generalize yt (zF n.l 0)=R at hc ⊢;rw[show(decide ((0:Int)=0)&&decide ((1:Nat)=1)&&R)=R by cases R<;>rfl];have HC:Hid (∀W,Below w.heap.size w W→Calls Tryz.prog 67 #[zO (zF n.l 0) (Au 0) (Cu 0),.string ⟨#[104,101,120]⟩] W (j1 W R)):=hc;clear hB hL hMe h hlen ho hnm hc hld hat q1 q2;go_enter Tryz.func38,Tryz.ntmps38
   go_wp2_with (first
    |((go_at_call 66)
      refine(hNm _).mono ?_;rintro e w1 ⟨rfl,bk1⟩;(obtain⟨p0,p1,p2,p3,p4⟩:=ju ((zm.new w _ _).below bk1 (by simp))))
    |(refine zi 43 rfl ?_;refine zd (some 43) (.pointer (some ⟨g,off+0*5,none⟩)) rfl (by rfl) (zu _ _ rfl g off 0 _ C rfl rfl (by omega) _) ?_)
    |(refine zi 44 rfl ?_;refine zd (some 44) (zO (zF n.l 0) (Au 0) (Cu 0)) rfl (by rfl) (zC _ rfl g _ rfl _ (HLD.out _ (qr bk1))) ?_)
    |((go_at_call 67)
      refine(HC.out _ (qr bk1)).mono ?_;(rintro e w2 ⟨rfl,bk2⟩)))
   go_ret
   exact⟨rfl,(qr bk1).trans (bk2.mono (qr bk1).size)⟩
  ·have hLi:¬(L:Int)=1:=by omega
   rw[decide_eq_false hL1,Bool.and_false,Bool.false_and];clear hB hL hMe h hlen ho hnm;go_enter Tryz.func38,Tryz.ntmps38
   go_wp2_with (first
    |((go_at_call 66)
      refine(hNm _).mono ?_;rintro e w1 ⟨rfl,bk1⟩;(obtain⟨p0,p1,p2,p3,p4⟩:=ju ((zm.new w _ _).below bk1 (by simp))))
   )
   go_ret
   exact⟨rfl,qr bk1⟩
 ·have hMb:(M==0)=false:=by simpa using hM
  rw[decide_eq_false hM,Bool.false_and,Bool.false_and];clear hB hL hMe h hlen ho hnm;go_enter Tryz.func38,Tryz.ntmps38
  go_wp2_with (first
   |((go_at_call 66)
     refine(hNm _).mono ?_;rintro e w1 ⟨rfl,bk1⟩;(obtain⟨p0,p1,p2,p3,p4⟩:=ju ((zm.new w _ _).below bk1 (by simp))))
  )
  go_ret
  exact⟨rfl,qr bk1⟩
theorem Us(n:Nd)(A:Option Addr)(C:Nat)(w:World)(h:jZ w n A C)(hnm:jq n.s=true)(ho:n.op=zB):Calls Tryz.prog 38 #[zO n A C] w (j1 w (qS n)):=by
 have f0:(n.op== [100,101,118,105,99,101])=false:=by rw[ho];decide
 have f1:(n.op== [106,111,117,114,110,97,108])=false:=by rw[ho];decide
 have f2:(n.op== [107,101,121])=false:=by rw[ho];decide
 have f3:(n.op== [114,111,111,116])=false:=by rw[ho];decide
 have f4:(n.op== [118,111,108,117,109,101])=true:=by rw[ho];decide
 have f5:(n.op== [101,120,112,111,114,116])=false:=by rw[ho];decide
 have hlen:=h.len;have hNm:=λW=>xy n.s W (by have:=h.s;omega)
 have hot:=zp n.op;unfold zO
 obtain⟨L,hL⟩:∃L,L=n.l.length:=⟨_,rfl⟩
 rw[←hL]at hlen ⊢;have hLm:L≤9223372036854775807:=by omega
 obtain⟨M,hMe⟩:∃M,M=n.n:=⟨_,rfl⟩
 have hB:=zcz hnm ho;rw[←hL,←hMe]at hB;rw[←hMe,hB];rw[hnm]at hNm;by_cases hM:M=0
 ·subst hM
  by_cases hL1:L=1
  ·obtain⟨g,off,Au,Cu,rfl,hg,hat⟩:=jg h (by omega)
   obtain⟨q1,q2⟩:=hat 0 (by omega);have hc:∀W,Below w.heap.size w W→Calls Tryz.prog 68 #[zO (zF n.l 0) (Au 0) (Cu 0),.int .i64 1] W (j1 W (zo 12 (zF n.l 0))):=λW hW=>zcZ 12 1 (zF n.l 0) (Au 0) (Cu 0) W rfl (q2.grow hW)
   have hld:∀W,Below w.heap.size w W→yO W g (off+0*5) (zF n.l 0) (Au 0) (Cu 0):=λW hW=>q1.grow hW hg
   have HLD:Hid (∀W,Below w.heap.size w W→yO W g (off+0*5) (zF n.l 0) (Au 0) (Cu 0)):=hld;subst hL1;generalize zo 12 (zF n.l 0)=R at hc ⊢;rw[show(decide ((0:Int)=0)&&decide ((1:Nat)=1)&&R)=R by cases R<;>rfl];have HC:Hid (∀W,Below w.heap.size w W→Calls Tryz.prog 68 #[zO (zF n.l 0) (Au 0) (Cu 0),.int .i64 1] W (j1 W R)):=hc;clear hB hL hMe h hlen ho hnm hc hld hat q1 q2;go_enter Tryz.func38,Tryz.ntmps38
   go_wp2_with (first
    |((go_at_call 66)
      refine(hNm _).mono ?_;rintro e w1 ⟨rfl,bk1⟩;(obtain⟨p0,p1,p2,p3,p4⟩:=ju ((zm.new w _ _).below bk1 (by simp))))
    |(refine zi 61 rfl ?_;refine zd (some 61) (.pointer (some ⟨g,off+0*5,none⟩)) rfl (by rfl) (zu _ _ rfl g off 0 _ C rfl rfl (by omega) _) ?_)
    |(refine zi 62 rfl ?_;refine zd (some 62) (zO (zF n.l 0) (Au 0) (Cu 0)) rfl (by rfl) (zC _ rfl g _ rfl _ (HLD.out _ (qr bk1))) ?_)
    |((go_at_call 68)
      refine(HC.out _ (qr bk1)).mono ?_;(rintro e w2 ⟨rfl,bk2⟩)))
   go_ret
   exact⟨rfl,(qr bk1).trans (bk2.mono (qr bk1).size)⟩
  ·have hLi:¬(L:Int)=1:=by omega
   rw[decide_eq_false hL1,Bool.and_false,Bool.false_and];clear hB hL hMe h hlen ho hnm;go_enter Tryz.func38,Tryz.ntmps38
   go_wp2_with (first
    |((go_at_call 66)
      refine(hNm _).mono ?_;rintro e w1 ⟨rfl,bk1⟩;(obtain⟨p0,p1,p2,p3,p4⟩:=ju ((zm.new w _ _).below bk1 (by simp))))
   )
   go_ret
   exact⟨rfl,qr bk1⟩
 ·have hMb:(M==0)=false:=by simpa using hM
  rw[decide_eq_false hM,Bool.false_and,Bool.false_and];clear hB hL hMe h hlen ho hnm;go_enter Tryz.func38,Tryz.ntmps38
  go_wp2_with (first
   |((go_at_call 66)
     refine(hNm _).mono ?_;rintro e w1 ⟨rfl,bk1⟩;(obtain⟨p0,p1,p2,p3,p4⟩:=ju ((zm.new w _ _).below bk1 (by simp))))
  )
  go_ret
  exact⟨rfl,qr bk1⟩
theorem KQ(n:Nd)(A:Option Addr)(C:Nat)(w:World)(h:jZ w n A C)(hnm:jq n.s=true)(ho:n.op=qj):Calls Tryz.prog 38 #[zO n A C] w (j1 w (qS n)):=by
 have f0:(n.op== [100,101,118,105,99,101])=false:=by rw[ho];decide
 have f1:(n.op== [106,111,117,114,110,97,108])=false:=by rw[ho];decide
 have f2:(n.op== [107,101,121])=false:=by rw[ho];decide
 have f3:(n.op== [114,111,111,116])=false:=by rw[ho];decide
 have f4:(n.op== [118,111,108,117,109,101])=false:=by rw[ho];decide
 have f5:(n.op== [101,120,112,111,114,116])=true:=by rw[ho];decide
 have hlen:=h.len;have hNm:=λW=>xy n.s W (by have:=h.s;omega)
 have hot:=zp n.op;unfold zO
 obtain⟨L,hL⟩:∃L,L=n.l.length:=⟨_,rfl⟩
 rw[←hL]at hlen ⊢;have hLm:L≤9223372036854775807:=by omega
 obtain⟨M,hMe⟩:∃M,M=n.n:=⟨_,rfl⟩
 have hB:=zbK hnm ho;rw[←hL,←hMe]at hB;rw[←hMe,hB];rw[hnm]at hNm;clear hB hL hMe h hlen ho hnm;by_cases hL0:L=0
 ·subst hL0
  by_cases hM0:M=0
  ·subst hM0
   rw[show((decide ((0:Int)=0)||decide ((0:Int)=1))&&decide ((0:Nat)=0))=true from rfl];go_enter Tryz.func38,Tryz.ntmps38
   go_wp2_with (first
    |((go_at_call 66)
      refine(hNm _).mono ?_;rintro e w1 ⟨rfl,bk1⟩;(obtain⟨p0,p1,p2,p3,p4⟩:=ju ((zm.new w _ _).below bk1 (by simp))))
   )
   go_ret
   exact⟨rfl,qr bk1⟩
  ·by_cases hM1:M=1
   ·subst hM1
    rw[show((decide ((1:Int)=0)||decide ((1:Int)=1))&&decide ((0:Nat)=0))=true from rfl];go_enter Tryz.func38,Tryz.ntmps38
    go_wp2_with (first
     |((go_at_call 66)
       refine(hNm _).mono ?_;rintro e w1 ⟨rfl,bk1⟩;(obtain⟨p0,p1,p2,p3,p4⟩:=ju ((zm.new w _ _).below bk1 (by simp))))
    )
    go_ret
    exact⟨rfl,qr bk1⟩
   ·have hb0:(M==0)=false:=by simpa using hM0
    have hb1:(M==1)=false:=by simpa using hM1
    rw[decide_eq_false hM0,decide_eq_false hM1];rw[show((false||false)&&decide ((0:Nat)=0))=false from rfl];go_enter Tryz.func38,Tryz.ntmps38
    go_wp2_with (first
     |((go_at_call 66)
       refine(hNm _).mono ?_;rintro e w1 ⟨rfl,bk1⟩;(obtain⟨p0,p1,p2,p3,p4⟩:=ju ((zm.new w _ _).below bk1 (by simp))))
    )
    go_ret
    exact⟨rfl,qr bk1⟩
 ·have hLi:¬(L:Int)=0:=by omega
  rw[decide_eq_false hL0,Bool.and_false];go_enter Tryz.func38,Tryz.ntmps38
  go_wp2_with (first
   |((go_at_call 66)
     refine(hNm _).mono ?_;rintro e w1 ⟨rfl,bk1⟩;(obtain⟨p0,p1,p2,p3,p4⟩:=ju ((zm.new w _ _).below bk1 (by simp))))
  )
  go_ret
  exact⟨rfl,qr bk1⟩
theorem Fp(n:Nd)(A:Option Addr)(C:Nat)(w:World)(h:jZ w n A C)(hnm:jq n.s=true)(ho:n.op≠zn∧n.op≠zq∧n.op≠zM∧n.op≠zN∧n.op≠zB∧n.op≠qj):Calls Tryz.prog 38 #[zO n A C] w (j1 w false):=by
 obtain⟨o0,o1,o2,o3,o4,o5⟩:=ho;have f0:(n.op== [100,101,118,105,99,101])=false:=by simpa [zn]using o0
 have f1:(n.op== [106,111,117,114,110,97,108])=false:=by simpa [zq]using o1
 have f2:(n.op== [107,101,121])=false:=by simpa [zM]using o2
 have f3:(n.op== [114,111,111,116])=false:=by simpa [zN]using o3
 have f4:(n.op== [118,111,108,117,109,101])=false:=by simpa [zB]using o4
 have f5:(n.op== [101,120,112,111,114,116])=false:=by simpa [qj]using o5
 have hlen:=h.len;have hNm:=λW=>xy n.s W (by have:=h.s;omega)
 have hot:=zp n.op;unfold zO
 obtain⟨L,hL⟩:∃L,L=n.l.length:=⟨_,rfl⟩
 rw[←hL]at hlen ⊢;have hLm:L≤9223372036854775807:=by omega
 obtain⟨M,hMe⟩:∃M,M=n.n:=⟨_,rfl⟩
 rw[hnm]at hNm;clear hL hMe h hlen hnm o0 o1 o2 o3 o4 o5;go_enter Tryz.func38,Tryz.ntmps38
 go_wp2_with (first
  |((go_at_call 66)
    refine(hNm _).mono ?_;rintro e w1 ⟨rfl,bk1⟩;(obtain⟨p0,p1,p2,p3,p4⟩:=ju ((zm.new w _ _).below bk1 (by simp))))
 )
 go_ret
 exact⟨rfl,qr bk1⟩
theorem FG(n:Nd)(A:Option Addr)(C:Nat)(w:World)(h:jZ w n A C)(hnm:jq n.s=false):Calls Tryz.prog 38 #[zO n A C] w (j1 w false):=by
 have hlen:=h.len;have hNm:=λW=>xy n.s W (by have:=h.s;omega)
 have hot:=zp n.op;unfold zO
 obtain⟨L,hL⟩:∃L,L=n.l.length:=⟨_,rfl⟩
 rw[←hL]at hlen ⊢;have hLm:L≤9223372036854775807:=by omega
 obtain⟨M,hMe⟩:∃M,M=n.n:=⟨_,rfl⟩
 rw[hnm]at hNm;clear hL hMe h hlen hnm;go_enter Tryz.func38,Tryz.ntmps38
 go_wp2_with (first
  |((go_at_call 66)
    refine(hNm _).mono ?_;rintro e w1 ⟨rfl,bk1⟩;(obtain⟨p0,p1,p2,p3,p4⟩:=ju ((zm.new w _ _).below bk1 (by simp))))
 )
 go_ret
 exact⟨rfl,qr bk1⟩
theorem zcO(n:Nd)(A:Option Addr)(C:Nat)(w:World)(h:jZ w n A C):Calls Tryz.prog 38 #[zO n A C] w (j1 w (qS n)):=by
 cases hnm:jq n.s with
 |false =>
  rw[show qS n=false by unfold qS;rw[hnm];rfl];exact FG n A C w h hnm
 |true =>
  by_cases o0:n.op=zn
  ·exact kR n A C w h hnm o0
  by_cases o1:n.op=zq
  ·exact XR n A C w h hnm o1
  by_cases o2:n.op=zM
  ·exact DS n A C w h hnm o2
  by_cases o3:n.op=zN
  ·exact gS n A C w h hnm o3
  by_cases o4:n.op=zB
  ·exact Us n A C w h hnm o4
  by_cases o5:n.op=qj
  ·exact KQ n A C w h hnm o5
  rw[zc3 ⟨o0,o1,o2,o3,o4,o5⟩];exact Fp n A C w h hnm ⟨o0,o1,o2,o3,o4,o5⟩
theorem Jo(n:Nd):yP n=(n.l.all qS&&n.op==y8&&n.s== []&&decide (n.n=0)):=rfl
theorem za4(l:List Nd)(p:Nd→Bool):l.all p=(List.range l.length).all (λj=>p (zF l j)):=by
 rw[Bool.eq_iff_iff,List.all_eq_true,List.all_eq_true];constructor
 ·intro h j hj
  have hj:=List.mem_range.1 hj;rw[Jk hj];exact h _ (List.getElem_mem hj)
 ·intro h x hx
  obtain⟨i,hi,rfl⟩:=List.getElem_of_mem hx;have:=h i (List.mem_range.2 hi);rw[Jk hi]at this;exact this
theorem JG(n:Nd)(A:Option Addr)(C:Nat)(w:World)(hLm:n.l.length≤9223372036854775807)(hc:n.op≠y8∨(n.op=y8∧n.s≠ [])∨(n.op=y8∧n.s= []∧n.n≠0)):Calls Tryz.prog 17 #[zO n A C] w (j1 w false):=by
 have hot:=zp n.op;have hst:=zp n.s;unfold zO;generalize n.l.length=L at *;rcases hc with h1|⟨h1,h2⟩|⟨h1,h2,h3⟩
 ·have f:(n.op== [102,105,108,101])=false:=by simpa [y8]using h1
  clear h1;go_enter Tryz.func17,Tryz.ntmps17
  go_wp2
  go_ret
  exact⟨rfl,zl _ _⟩
 ·have f:(n.op== [102,105,108,101])=true:=by simpa [y8]using h1
  have f2:(n.s== [])=false:=by simpa using h2
  clear h1 h2;go_enter Tryz.func17,Tryz.ntmps17
  go_wp2
  go_ret
  exact⟨rfl,zl _ _⟩
 ·have f:(n.op== [102,105,108,101])=true:=by simpa [y8]using h1
  rw[h2,show bs []=(⟨#[]⟩:ByteArray)from rfl];generalize n.n=M at *;clear h1 h2 hst;go_enter Tryz.func17,Tryz.ntmps17
  go_wp2
  go_ret
  exact⟨rfl,zl _ _⟩
theorem D9(n:Nd)(A:Option Addr)(C:Nat)(w:World)(h:jZ w n A C):Calls Tryz.prog 17 #[zO n A C] w (j1 w (yP n)):=by
 have hlen:=h.len;by_cases o1:n.op=y8
 ·by_cases o2:n.s= []
  ·by_cases o3:n.n=0
   ·have hR:yP n=(List.range n.l.length).all (λj=>qS (zF n.l j)):=by
     rw[Jo,o1,o2,o3,za4];simp
    have hot:=zp n.op;have f:(n.op== [102,105,108,101])=true:=by simpa [y8]using o1
    have hpa:=λhpos=>jg h hpos
    unfold zO;rw[o2,o3,show bs []=(⟨#[]⟩:ByteArray)from rfl]
    obtain⟨L,hL⟩:∃L,L=n.l.length:=⟨_,rfl⟩
    rw[←hL]at hR hlen hpa ⊢;rw[hR];have HF:Hid (∀B,B=(List.range L).all (λj=>qS (zF n.l j))→B=(List.range L).all (λj=>qS (zF n.l j))):=λ_ h=>h
    have hLm:L≤9223372036854775807:=by omega
    obtain⟨V0,hV0⟩:∃V,V=w.alloc (.cells #[.string (bs n.op),.string ⟨#[]⟩,.int .i64 0,.int .i64 n.a,.slice A L C] 24):=⟨_,rfl⟩
    have hbV:Below w.heap.size w V0:=by rw[hV0];exact zl _ _
    have hVs:V0.heap.size=w.heap.size+1:=by rw[hV0];simp
    have HB:Hid (∀W,Below V0.heap.size V0 W→zm W w.heap.size 24 #[.string (bs n.op),.string ⟨#[]⟩,.int .i64 0,.int .i64 n.a,.slice A L C]):=λW hW=>zm.below (by rw[hV0];exact zm.new _ _ _) hW (by omega)
    generalize hRES:((List.range L).all λi=>qS (zF n.l i))=RES;have HR:Hid ((List.range L).all (λj=>qS (zF n.l j))=RES):=hRES;clear hR hRES o1 o2 o3 HF h hL;go_enter Tryz.func17,Tryz.ntmps17
    go_wp2
    rw[←hV0]
    go_loopw [3] (λi wr=>∃k:Nat,k≤L∧i= .int .i64 k∧Below V0.heap.size V0 wr∧Hid (∀j,j<k→qS (zF n.l j)=true)) (λi _=>L-(intOf i).toNat)
    case atStart=>exact⟨0,Nat.zero_le _,rfl,Below.refl _ _,(λj hj=>absurd hj (Nat.not_lt_zero _):∀j,j<0→qS (zF n.l j)=true)⟩
    case round =>
     obtain⟨k,hk,rfl,bz,HA2⟩:=hrel;obtain⟨p0,p1,p2,p3,p4⟩:=ju (HB.out _ bz);by_cases hlt:k<L
     ·obtain⟨g,off,Au,Cu,rfl,hg,hat⟩:=hpa (by omega)
      obtain⟨q1,q2⟩:=hat k hlt;have hq1:yO wr g (off+k*5) (zF n.l k) (Au k) (Cu k):=(q1.grow hbV hg).grow bz (by omega);have hc:=zcO (zF n.l k) (Au k) (Cu k) wr ((q2.grow hbV).grow bz);have HQ:Hid _:=hq1;clear hpa hat q1 q2 hq1;cases hr:qS (zF n.l k)<;>rw[hr]at hc
      ·have HR2:Hid (qS (zF n.l k)=false):=hr
       clear hr
       go_wp2_with (first
        |(refine zi 28 rfl ?_;refine zd (some 28) (.pointer (some ⟨g,off+k*5,none⟩)) rfl (by rfl) (zu _ _ rfl g off k _ C rfl rfl (by omega) _) ?_)
        |(refine zi 29 rfl ?_;refine zd (some 29) (zO (zF n.l k) (Au k) (Cu k)) rfl (by rfl) (zC _ rfl g _ rfl _ HQ.out) ?_)
        |((go_at_call 38)
          refine hc.mono ?_;(rintro e w9 ⟨rfl,hb9⟩)))
       go_ret
       refine⟨?_,hbV.trans ((bz.trans (hb9.mono bz.size)).mono (by omega))⟩;rw[←HR.out,Zi hlt HR2.out];rfl
      ·have HR2:Hid (qS (zF n.l k)=true):=hr
       clear hr
       go_wp2_with (first
        |(refine zi 28 rfl ?_;refine zd (some 28) (.pointer (some ⟨g,off+k*5,none⟩)) rfl (by rfl) (zu _ _ rfl g off k _ C rfl rfl (by omega) _) ?_)
        |(refine zi 29 rfl ?_;refine zd (some 29) (zO (zF n.l k) (Au k) (Cu k)) rfl (by rfl) (zC _ rfl g _ rfl _ HQ.out) ?_)
        |((go_at_call 38)
          refine hc.mono ?_;(rintro e w9 ⟨rfl,hb9⟩)))
       go_roundw
       case rel=>exact⟨k+1,hlt,by go_num,bz.trans (hb9.mono bz.size),(λj hj=>by
        by_cases e:j<k
        ·exact HA2.out j e
        ·obtain rfl:j=k:=by omega
         exact HR2.out:∀j,j<k+1→qS (zF n.l j)=true)⟩
       case measure=>simp[intOf];omega
     ·obtain rfl:k=L:=by omega
      clear hpa
      go_wp2
      go_ret
      refine⟨?_,hbV.trans (bz.mono (by omega))⟩;rw[←HR.out,xC HA2.out];rfl
   ·rw[show yP n=false by rw[Jo,decide_eq_false o3,Bool.and_false]]
    exact JG n A C w (by omega) (.inr (.inr ⟨o1,o2,o3⟩))
  ·rw[show yP n=false by rw[Jo,show(n.s== [])=false by simpa using o2];simp]
   exact JG n A C w (by omega) (.inr (.inl ⟨o1,o2⟩))
 ·rw[show yP n=false by rw[Jo,show(n.op==y8)=false by simpa using o1];simp]
  exact JG n A C w (by omega) (.inl o1)
end
section
open Go.ChangeShapes Go.WideShapes Go.ChangeAt Go.RowKit Go.MapKept
def RV0:RV:=⟨.slice none 0 0,.slice none 0 0,.slice none 0 0⟩
theorem D0(w3:World):zZ (λ_=>False) (w3.alloc (.cells #[.slice none 0 0,.int .i64 0,.slice none 0 0,.int .i64 0,.bool false,.slice none 0 0,.int .i64 0,.int .i64 0,.int .i64 0,.int .i64 0,.int .i64 0,.int .i64 0,.int .i64 0,.int .i64 0] 61)) w3.heap.size RV0 (rkD []):=
 ⟨zm.new w3 _ _,⟨rfl,.inl ⟨rfl,rfl⟩⟩,⟨[],rfl,⟨rfl,.inl ⟨rfl,rfl⟩⟩,λi h=>absurd h (Nat.not_lt_zero _)⟩,⟨[],rfl,⟨rfl,.inl ⟨rfl,rfl⟩⟩,λi h=>absurd h (Nat.not_lt_zero _)⟩,by decide⟩
theorem JZ{o:Oper}{a:Act}(x:Operand)(ho:o.op= .load 32 x)(g:Nat)(hx:a.eval x= .pointer (some ⟨g,0,none⟩)){x0 x1 x2 x3 x4 x5 x6 x7 x8 x9 y0 y1 y2 y3:Value}(w:World){t:Nat}(h:zm w g t #[x0,x1,x2,x3,x4,x5,x6,x7,x8,x9,y0,y1,y2,y3]):(execOp a.eval o).run Tryz.prog w= .ok (.value (.agg #[x0,x1,x2,x3,x4])) w:=by
 have q0:=h.cell 0;have q1:=h.cell 1;have q2:=h.cell 2;have q3:=h.cell 3;have q4:=h.cell 4;simp only[qH,qG,qI]at q0 q1 q2 q3 q4;unfold execOp;simp only[ho,hx];go_simp
theorem vM{o:Oper}{a:Act}(x:Operand)(ho:o.op= .load 25 x)(p:Addr)(hx:a.eval x= .pointer (some p)){v:Int}(w:World)(h:w.cell? p=some (.int .i64 v)):(execOp a.eval o).run Tryz.prog w= .ok (.value (.int .i64 v)) w:=by
 unfold execOp;simp only[ho,hx];go_simp
theorem dd(p:Pt)(h1:p.kids= [])(h2:p.key= [])(h3:p.root= [])(w:World)(P:Nat→Prop):xH w P p (.slice none 0 0,.slice none 0 0,.slice none 0 0):=by
 refine⟨⟨none,0,by rw[h1];rfl,by rw[h1];exact Nat.le_refl _,by unfold maxLen;omega,by rw[h1];exact .inl rfl⟩,⟨none,0,by rw[h2];rfl,by rw[h2];exact Nat.le_refl _,by unfold maxLen;omega,by rw[h2];exact .inl rfl⟩,⟨none,0,by rw[h3];rfl,by rw[h3];exact Nat.le_refl _,by unfold maxLen;omega,by rw[h3];exact .inl rfl⟩⟩
theorem Ys(k:Rk)(b:Bool)(e a:Int):(zA k b e a).parts=k.parts∧(zA k b e a).expo=k.expo∧(zA k b e a).ro=k.ro∧(zA k b e a).place=k.place∧(zA k b e a).devs=k.devs∧(zA k b e a).jour=k.jour:=by unfold zA;split<;>exact⟨rfl,rfl,rfl,rfl,rfl,rfl⟩
theorem zc2{l:List R3}{i j:Int}{n:Nat}(hn:n=l.length){B:Bool}(hB:B=xM l)(h:Ov n (SS (fG l)) i j):decide (0≤i)=B:=by
 rw[hn]at h;have q:=Uu h;rw[hB];by_cases q0:i<0
 ·rw[decide_eq_true q0]at q
  rw[decide_eq_false (by omega)];cases ho:xM l
  ·rfl
  ·rw[ho]at q;cases q
 ·rw[decide_eq_false q0]at q
  rw[decide_eq_true (by omega)];cases ho:xM l
  ·rw[ho]at q;cases q
  ·rfl
theorem Q0.err{B:Nat}{R:Except Er Km}{ec:Nat}{ek:Int}(h:R= .error (ec,ek))(w':World):Q0 B R (.returned (.tuple #[.agg #[.slice none 0 0,.int .i64 0,.slice none 0 0,.int .i64 0,.bool false],.int .i64 (ec:Nat),.int .i64 ek])) w':=by
 rw[h];rfl
end
end Go.Proofs.YteaddcdpgcgggaaGreatDoor
