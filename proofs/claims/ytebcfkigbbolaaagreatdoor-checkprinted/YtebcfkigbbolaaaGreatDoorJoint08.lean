import Derived.Test.YtebcfkigbbolaaaGreatDoorJoint07
import Derived.Test.YtebcfkigbbolaaaGreatDoorJoint01
import Derived.RegionTactic
import Derived.Test.YtebcfkigbbolaaaGreatDoorJoint02
namespace Go.Proofs.YtebcfkigbbolaaaGreatDoor
set_option linter.unusedVariables false
set_option maxRecDepth 100000
set_option maxHeartbeats 40000000
section
open Go.ChangeShapes Go.WideShapes Go.ChangeAt Go.RowKit
theorem fe{w:World}{rb:Nat}{A:Option Addr}{C:Nat}{ts:zo}{i en:Nat}{k:Int}(h:zF w rb A C ts i en 0 k)(hG:yB ts)(hi:i<ts.length)(hk:ts[i].1.kind=0)(hs:ts[i].1.s=zD):Calls Tryz.prog 22 #[.pointer (some ⟨rb,0,none⟩)] w (qj w rb A C ts i en 0 qi):=by
 have hpx:=Yq (en:=en) hi hk hs (by decide);have hlt:=h.has.lt;have hf:=h.few;have hR:=h
 have hB:∀s,vr 0 ts i s=(zD==s):=by
  intro s;unfold vr;rw[qu hi];unfold yA;rw[hk,hs];rfl
 have hIs:∀(W:World) (k:Int) (s:List UInt8) (b:Bool),zF W rb A C ts i en 0 k→(zD==s)=b→Calls Tryz.prog 43 #[.pointer (some ⟨rb,0,none⟩),.string (bs s)] W λe w'=>e= .returned (.bool b)∧∃q,w'=W.drewN q:=by
  intro W k s b h hb;have:=j7 h s;rw[hB,hb]at this;exact this
 have hpl:∀W k,zF W rb A C ts i en 0 k→Calls Tryz.prog 42 #[.pointer (some ⟨rb,0,none⟩)] W λe w'=>e= .returned (.int .i64 (ts[i].2:Nat))∧Below W.heap.size W w':=by
  intro W k h;refine(jv h).mono ?_;rintro e w' ⟨rfl,q,rfl⟩;rw[jL hi];exact⟨rfl,jG (Below.refl _ _) _⟩
 have h0:=h.kp (zd w (.cells #[.string ⟨#[]⟩,.string ⟨#[]⟩,.int .i64 0,.int .i64 0,.slice none 0 0] 24));have fin:∀(e:Ending) (w':World),qj w rb A C ts i en 0 (λ_ _=>qi en (ts.drop i)) e w'→qj w rb A C ts i en 0 qi e w':=λe w' h=>h
 rw[hpx]at fin;generalize ts[i].2=at_ at hpl fin;clear hpx hs hk hB;have hi5:(i:Int)≤500:=by omega
 go_enter Tryz.func22,Tryz.ntmps22
 go_wp2_with (first
  |((go_at_call 42)
    refine(hpl _ _ h0).mono ?_;rintro e w2 ⟨rfl,hb2⟩;have S3:=(xi (at_:=((at_:Nat):Int)) hR hb2 hlt).alloc (.cells #[.string ⟨#[100,101,118,105,99,101]⟩,.string ⟨#[106,111,117,114,110,97,108]⟩,.string ⟨#[107,101,121]⟩,.string ⟨#[114,111,111,116]⟩,.string ⟨#[118,111,108,117,109,101]⟩,.string ⟨#[101,120,112,111,114,116]⟩] 9);have pq:=S3.pq;(have G3:ze ((w2.alloc (.cells #[.string ⟨#[]⟩,.string ⟨#[]⟩,.int .i64 0,.int .i64 (at_:Nat),.slice none 0 0] 24)).alloc (.cells #[.string ⟨#[100,101,118,105,99,101]⟩,.string ⟨#[106,111,117,114,110,97,108]⟩,.string ⟨#[107,101,121]⟩,.string ⟨#[114,111,111,116]⟩,.string ⟨#[118,111,108,117,109,101]⟩,.string ⟨#[101,120,112,111,114,116]⟩] 9)) (w2.heap.size+1) 9 #[.string ⟨#[100,101,118,105,99,101]⟩,.string ⟨#[106,111,117,114,110,97,108]⟩,.string ⟨#[107,101,121]⟩,.string ⟨#[114,111,111,116]⟩,.string ⟨#[118,111,108,117,109,101]⟩,.string ⟨#[101,120,112,111,114,116]⟩]:=ze.new_at (by simp))))
 go_loopw [5] (λz wr=>∃k:Nat,z= .int .i64 (k:Nat)∧ze wr (w2.heap.size+1) 9 #[.string ⟨#[100,101,118,105,99,101]⟩,.string ⟨#[106,111,117,114,110,97,108]⟩,.string ⟨#[107,101,121]⟩,.string ⟨#[114,111,111,116]⟩,.string ⟨#[118,111,108,117,109,101]⟩,.string ⟨#[101,120,112,111,114,116]⟩]∧((k≤3∧Qj w rb A C ts i en w2.heap.size #[.string ⟨#[]⟩,.string ⟨#[]⟩,.int .i64 0,.int .i64 (at_:Nat),.slice none 0 0] wr i 0)∨(k=4∧Qj w rb A C ts i en w2.heap.size #[.string ⟨#[114,111,111,116]⟩,.string ⟨#[]⟩,.int .i64 0,.int .i64 (at_:Nat),.slice none 0 0] wr i 0))) (λz _=>7-(intOf z).toNat)
 case atStart=>exact⟨0,rfl,G3,.inl ⟨Nat.zero_le _,S3⟩⟩
 case round =>
  obtain⟨k,rfl,G4,hS⟩:=hrel;have lG4:=G4.lt;rcases hS with⟨hk,S4⟩|⟨rfl,S4⟩
  ·obtain⟨k4,h4⟩:=S4.at hR
   have q0:=S4.hq.cell 0;have f0:=S4.hq.free 0;have lq:=S4.hq.lt;rcases(by omega:k=0∨k=1∨k=2∨k=3)with rfl|rfl|rfl|rfl
   ·have g0:=G4.cell 0
    have hI:=hIs wr k4 zc false h4 rfl;rw[show bs zc=⟨#[100,101,118,105,99,101]⟩from rfl]at hI
    go_wp2_with (first
     |((go_at_call 43)
       refine hI.mono ?_;(rintro e w5 ⟨rfl,q5,rfl⟩)))
    go_roundw
    case rel=>exact⟨1,rfl,G4.drewN q5,.inl ⟨by omega,S4.drewN q5⟩⟩
    case measure=>simp[intOf]
   ·have g0:=G4.cell 1
    have hI:=hIs wr k4 zg false h4 rfl;rw[show bs zg=⟨#[106,111,117,114,110,97,108]⟩from rfl]at hI
    go_wp2_with (first
     |((go_at_call 43)
       refine hI.mono ?_;(rintro e w5 ⟨rfl,q5,rfl⟩)))
    go_roundw
    case rel=>exact⟨2,rfl,G4.drewN q5,.inl ⟨by omega,S4.drewN q5⟩⟩
    case measure=>simp[intOf]
   ·have g0:=G4.cell 2
    have hI:=hIs wr k4 zT false h4 rfl;rw[show bs zT=⟨#[107,101,121]⟩from rfl]at hI
    go_wp2_with (first
     |((go_at_call 43)
       refine hI.mono ?_;(rintro e w5 ⟨rfl,q5,rfl⟩)))
    go_roundw
    case rel=>exact⟨3,rfl,G4.drewN q5,.inl ⟨by omega,S4.drewN q5⟩⟩
    case measure=>simp[intOf]
   ·have g0:=G4.cell 3
    have hI:=hIs wr k4 zD true h4 rfl;rw[show bs zD=⟨#[114,111,111,116]⟩from rfl]at hI
    go_wp2_with (first
     |((go_at_call 43)
       refine hI.mono ?_;(rintro e w5 ⟨rfl,q5,rfl⟩)))
    go_roundw
    case rel=>exact⟨4,rfl,(G4.drewN q5).other (by show w2.heap.size+1≠w2.heap.size;omega) _,.inr ⟨rfl,(S4.drewN q5).put 0 _ _ rfl⟩⟩
    case measure=>simp[intOf]
  ·obtain⟨k4,h4⟩:=S4.at hR
   have q0:=S4.hq.cell 0;have lq:=S4.hq.lt;have S5:=S4.step hi;obtain⟨k5,h5⟩:=S5.at hR;have c4:=h4.has.cell 1;have d4:=h4.has.free 1;have l4:=h4.has.lt;simp only[jg,jd,jf]at c4
   go_wp2_with (first
    |((go_at_call 45)
      refine qk (wr.setCell ⟨rb,1,none⟩ (.int .i64 ((i:Int)+1))) ?_;refine(rname_c' h5).mono ?_;rintro e w5 ⟨i5,b5,⟨⟨tk5,ts5,tn5⟩,ta5⟩,rfl,s5,T5,x5⟩;have S6:=((S5.rst s5).put 1 (.string (bs ts5)) #[.string ⟨#[114,111,111,116]⟩,.string (bs ts5),.int .i64 0,.int .i64 (at_:Nat),.slice none 0 0] rfl).alloc (.cells #[.int .i64 (tk5:Nat),.string (bs ts5),.int .i64 (tn5:Nat),.int .i64 (ta5:Nat)] 100);obtain⟨k6,h6⟩:=S6.at hR;have q5:=(S5.rst s5).hq.cell 0;have q51:=(S5.rst s5).hq.cell 1;have q52:=(S5.rst s5).hq.cell 2;have q54:=(S5.rst s5).hq.cell 4;have f51:=(S5.rst s5).hq.free 1;have f52:=(S5.rst s5).hq.free 2;have f54:=(S5.rst s5).hq.free 4;have l5:=(S5.rst s5).hq.lt;(have m5:w2.heap.size≠w5.heap.size:=by omega);(simp only[qt]))
    |((go_at_call 46)
      refine qk ((w5.setCell ⟨w2.heap.size,1,none⟩ (.string (bs ts5))).alloc (.cells #[.int .i64 (tk5:Nat),.string (bs ts5),.int .i64 (tn5:Nat),.int .i64 (ta5:Nat)] 100)) ?_;refine(xl h6 2).mono ?_;rintro e w7 ⟨i7,b7,⟨⟨tk7,ts7,tn7⟩,ta7⟩,rfl,s7,T7,x7⟩;have S8:=(((S6.rst s7).put 4 (.slice (some ⟨w7.heap.size+1,0,none⟩) 1 1) #[.string ⟨#[114,111,111,116]⟩,.string (bs ts5),.int .i64 0,.int .i64 (at_:Nat),.slice (some ⟨w7.heap.size+1,0,none⟩) 1 1] rfl).alloc (.cells #[.int .i64 (tk7:Nat),.string (bs ts7),.int .i64 (tn7:Nat),.int .i64 (ta7:Nat)] 100)).alloc (.cells #[.string ⟨#[104,101,120]⟩,.string (bs ts7),.int .i64 0,.int .i64 (ta7:Nat),.slice none 0 0] 24);obtain⟨k8,h8⟩:=S8.at hR;have H8:ze (((w7.setCell ⟨w2.heap.size,4,none⟩ (.slice (some ⟨w7.heap.size+1,0,none⟩) 1 1)).alloc (.cells #[.int .i64 (tk7:Nat),.string (bs ts7),.int .i64 (tn7:Nat),.int .i64 (ta7:Nat)] 100)).alloc (.cells #[.string ⟨#[104,101,120]⟩,.string (bs ts7),.int .i64 0,.int .i64 (ta7:Nat),.slice none 0 0] 24)) (w7.heap.size+1) 24 #[.string ⟨#[104,101,120]⟩,.string (bs ts7),.int .i64 0,.int .i64 (ta7:Nat),.slice none 0 0]:=ze.new_at (by simp);have q74:=(S6.rst s7).hq.cell 4;have f74:=(S6.rst s7).hq.free 4;have l7:=(S6.rst s7).hq.lt;(have m7:w2.heap.size≠w7.heap.size:=by omega);(have n7:w2.heap.size≠w7.heap.size+1:=by omega);(simp only[qt]))
    |((go_at_call 47)
      refine qk ((((w7.setCell ⟨w2.heap.size,4,none⟩ (.slice (some ⟨w7.heap.size+1,0,none⟩) 1 1)).alloc (.cells #[.int .i64 (tk7:Nat),.string (bs ts7),.int .i64 (tn7:Nat),.int .i64 (ta7:Nat)] 100)).alloc (.cells #[.string ⟨#[104,101,120]⟩,.string (bs ts7),.int .i64 0,.int .i64 (ta7:Nat),.slice none 0 0] 24))) ?_;refine(qC h8 [59]).mono ?_;rintro e w9 ⟨rfl,i9,b9,s9,t9,T9⟩;rw[jz hG (by decide)]at T9;have S9:=S8.rst s9;have p9:=S9.hp.lt;have r9:=S9.hq.lt;have ca0:=S9.hp.cell 0;have ca1:=S9.hp.cell 1;have ca2:=S9.hp.cell 2;have ca3:=S9.hp.cell 3;have ca4:=S9.hp.cell 4;have fa0:=S9.hp.free 0;have fa1:=S9.hp.free 1;have fa2:=S9.hp.free 2;have fa3:=S9.hp.free 3;have fa4:=S9.hp.free 4;have cb0:=S9.hq.cell 0;have cb1:=S9.hq.cell 1;have cb2:=S9.hq.cell 2;have cb3:=S9.hq.cell 3;(have cb4:=S9.hq.cell 4))
    )
   refine zY rfl rfl (S9.hp.set5 _ _ _ _ _) rfl (fin _ _ ?_);refine⟨i9,b9,.mk zD ts5 0 (at_:Nat) [.mk Zn ts7 0 (ta7:Nat) []],some ⟨w7.heap.size+1,0,none⟩,1,rfl,?_,qX.set5 S9.st (Nat.le_refl _) hlt _ _ _ _ _,T5.bind ((show zX b5 (qV zD en (ts.drop i5)) ts ((0:Int),[Nd.mk Zn ts7 0 (ta7:Nat) []]) i7 b7 from T7.map (λt:Tk×Nat=>((0:Int),[Nd.mk Zn t.1.s 0 ((t.2:Nat):Int) []]))).bind (T9.map (λ_=>Nd.mk zD ts5 0 (at_:Nat) [.mk Zn ts7 0 (ta7:Nat) []]))),Nat.le_of_ble_eq_true rfl⟩;exact(jB.single (n:= .mk Zn ts7 0 (ta7:Nat) []) (P:=λg=>w.heap.size≤g∧g≠w.heap.size) (H8.kp s9.2.2.1 (by omega)) (by omega) (jB.nil _ _)).set5 (λg hg=>hg.2) _ _ _ _ _ |>.mono λg hg=>hg.1
theorem kH{w:World}{rb:Nat}{A:Option Addr}{C:Nat}{ts:zo}{i en:Nat}{k:Int}(h:zF w rb A C ts i en 0 k)(hG:yB ts)(hi:i<ts.length)(hk:ts[i].1.kind=0)(hs:ts[i].1.s=zp):Calls Tryz.prog 22 #[.pointer (some ⟨rb,0,none⟩)] w (qj w rb A C ts i en 0 qi):=by
 have hpx:=Yq (en:=en) hi hk hs (by decide);have hlt:=h.has.lt;have hf:=h.few;have hR:=h
 have hB:∀s,vr 0 ts i s=(zp==s):=by
  intro s;unfold vr;rw[qu hi];unfold yA;rw[hk,hs];rfl
 have hIs:∀(W:World) (k:Int) (s:List UInt8) (b:Bool),zF W rb A C ts i en 0 k→(zp==s)=b→Calls Tryz.prog 43 #[.pointer (some ⟨rb,0,none⟩),.string (bs s)] W λe w'=>e= .returned (.bool b)∧∃q,w'=W.drewN q:=by
  intro W k s b h hb;have:=j7 h s;rw[hB,hb]at this;exact this
 have hpl:∀W k,zF W rb A C ts i en 0 k→Calls Tryz.prog 42 #[.pointer (some ⟨rb,0,none⟩)] W λe w'=>e= .returned (.int .i64 (ts[i].2:Nat))∧Below W.heap.size W w':=by
  intro W k h;refine(jv h).mono ?_;rintro e w' ⟨rfl,q,rfl⟩;rw[jL hi];exact⟨rfl,jG (Below.refl _ _) _⟩
 have h0:=h.kp (zd w (.cells #[.string ⟨#[]⟩,.string ⟨#[]⟩,.int .i64 0,.int .i64 0,.slice none 0 0] 24));have fin:∀(e:Ending) (w':World),qj w rb A C ts i en 0 (λ_ _=>qi en (ts.drop i)) e w'→qj w rb A C ts i en 0 qi e w':=λe w' h=>h
 rw[hpx]at fin;generalize ts[i].2=at_ at hpl fin;clear hpx hs hk hB;have hi5:(i:Int)≤500:=by omega
 go_enter Tryz.func22,Tryz.ntmps22
 go_wp2_with (first
  |((go_at_call 42)
    refine(hpl _ _ h0).mono ?_;rintro e w2 ⟨rfl,hb2⟩;have S3:=(xi (at_:=((at_:Nat):Int)) hR hb2 hlt).alloc (.cells #[.string ⟨#[100,101,118,105,99,101]⟩,.string ⟨#[106,111,117,114,110,97,108]⟩,.string ⟨#[107,101,121]⟩,.string ⟨#[114,111,111,116]⟩,.string ⟨#[118,111,108,117,109,101]⟩,.string ⟨#[101,120,112,111,114,116]⟩] 9);have pq:=S3.pq;(have G3:ze ((w2.alloc (.cells #[.string ⟨#[]⟩,.string ⟨#[]⟩,.int .i64 0,.int .i64 (at_:Nat),.slice none 0 0] 24)).alloc (.cells #[.string ⟨#[100,101,118,105,99,101]⟩,.string ⟨#[106,111,117,114,110,97,108]⟩,.string ⟨#[107,101,121]⟩,.string ⟨#[114,111,111,116]⟩,.string ⟨#[118,111,108,117,109,101]⟩,.string ⟨#[101,120,112,111,114,116]⟩] 9)) (w2.heap.size+1) 9 #[.string ⟨#[100,101,118,105,99,101]⟩,.string ⟨#[106,111,117,114,110,97,108]⟩,.string ⟨#[107,101,121]⟩,.string ⟨#[114,111,111,116]⟩,.string ⟨#[118,111,108,117,109,101]⟩,.string ⟨#[101,120,112,111,114,116]⟩]:=ze.new_at (by simp))))
 go_loopw [5] (λz wr=>∃k:Nat,z= .int .i64 (k:Nat)∧ze wr (w2.heap.size+1) 9 #[.string ⟨#[100,101,118,105,99,101]⟩,.string ⟨#[106,111,117,114,110,97,108]⟩,.string ⟨#[107,101,121]⟩,.string ⟨#[114,111,111,116]⟩,.string ⟨#[118,111,108,117,109,101]⟩,.string ⟨#[101,120,112,111,114,116]⟩]∧((k≤4∧Qj w rb A C ts i en w2.heap.size #[.string ⟨#[]⟩,.string ⟨#[]⟩,.int .i64 0,.int .i64 (at_:Nat),.slice none 0 0] wr i 0)∨(k=5∧Qj w rb A C ts i en w2.heap.size #[.string ⟨#[118,111,108,117,109,101]⟩,.string ⟨#[]⟩,.int .i64 0,.int .i64 (at_:Nat),.slice none 0 0] wr i 0))) (λz _=>7-(intOf z).toNat)
 case atStart=>exact⟨0,rfl,G3,.inl ⟨Nat.zero_le _,S3⟩⟩
 case round =>
  obtain⟨k,rfl,G4,hS⟩:=hrel;have lG4:=G4.lt;rcases hS with⟨hk,S4⟩|⟨rfl,S4⟩
  ·obtain⟨k4,h4⟩:=S4.at hR
   have q0:=S4.hq.cell 0;have f0:=S4.hq.free 0;have lq:=S4.hq.lt;rcases(by omega:k=0∨k=1∨k=2∨k=3∨k=4)with rfl|rfl|rfl|rfl|rfl
   ·have g0:=G4.cell 0
    have hI:=hIs wr k4 zc false h4 rfl;rw[show bs zc=⟨#[100,101,118,105,99,101]⟩from rfl]at hI
    go_wp2_with (first
     |((go_at_call 43)
       refine hI.mono ?_;(rintro e w5 ⟨rfl,q5,rfl⟩)))
    go_roundw
    case rel=>exact⟨1,rfl,G4.drewN q5,.inl ⟨by omega,S4.drewN q5⟩⟩
    case measure=>simp[intOf]
   ·have g0:=G4.cell 1
    have hI:=hIs wr k4 zg false h4 rfl;rw[show bs zg=⟨#[106,111,117,114,110,97,108]⟩from rfl]at hI
    go_wp2_with (first
     |((go_at_call 43)
       refine hI.mono ?_;(rintro e w5 ⟨rfl,q5,rfl⟩)))
    go_roundw
    case rel=>exact⟨2,rfl,G4.drewN q5,.inl ⟨by omega,S4.drewN q5⟩⟩
    case measure=>simp[intOf]
   ·have g0:=G4.cell 2
    have hI:=hIs wr k4 zT false h4 rfl;rw[show bs zT=⟨#[107,101,121]⟩from rfl]at hI
    go_wp2_with (first
     |((go_at_call 43)
       refine hI.mono ?_;(rintro e w5 ⟨rfl,q5,rfl⟩)))
    go_roundw
    case rel=>exact⟨3,rfl,G4.drewN q5,.inl ⟨by omega,S4.drewN q5⟩⟩
    case measure=>simp[intOf]
   ·have g0:=G4.cell 3
    have hI:=hIs wr k4 zD false h4 rfl;rw[show bs zD=⟨#[114,111,111,116]⟩from rfl]at hI
    go_wp2_with (first
     |((go_at_call 43)
       refine hI.mono ?_;(rintro e w5 ⟨rfl,q5,rfl⟩)))
    go_roundw
    case rel=>exact⟨4,rfl,G4.drewN q5,.inl ⟨by omega,S4.drewN q5⟩⟩
    case measure=>simp[intOf]
   ·have g0:=G4.cell 4
    have hI:=hIs wr k4 zp true h4 rfl;rw[show bs zp=⟨#[118,111,108,117,109,101]⟩from rfl]at hI
    go_wp2_with (first
     |((go_at_call 43)
       refine hI.mono ?_;(rintro e w5 ⟨rfl,q5,rfl⟩)))
    go_roundw
    case rel=>exact⟨5,rfl,(G4.drewN q5).other (by show w2.heap.size+1≠w2.heap.size;omega) _,.inr ⟨rfl,(S4.drewN q5).put 0 _ _ rfl⟩⟩
    case measure=>simp[intOf]
  ·obtain⟨k4,h4⟩:=S4.at hR
   have q0:=S4.hq.cell 0;have lq:=S4.hq.lt;have S5:=S4.step hi;obtain⟨k5,h5⟩:=S5.at hR;have c4:=h4.has.cell 1;have d4:=h4.has.free 1;have l4:=h4.has.lt;simp only[jg,jd,jf]at c4
   go_wp2_with (first
    |((go_at_call 45)
      refine qk (wr.setCell ⟨rb,1,none⟩ (.int .i64 ((i:Int)+1))) ?_;refine(rname_c' h5).mono ?_;rintro e w5 ⟨i5,b5,⟨⟨tk5,ts5,tn5⟩,ta5⟩,rfl,s5,T5,x5⟩;have S6:=((S5.rst s5).put 1 (.string (bs ts5)) #[.string ⟨#[118,111,108,117,109,101]⟩,.string (bs ts5),.int .i64 0,.int .i64 (at_:Nat),.slice none 0 0] rfl).alloc (.cells #[.int .i64 (tk5:Nat),.string (bs ts5),.int .i64 (tn5:Nat),.int .i64 (ta5:Nat)] 100);obtain⟨k6,h6⟩:=S6.at hR;have q5:=(S5.rst s5).hq.cell 0;have q51:=(S5.rst s5).hq.cell 1;have q52:=(S5.rst s5).hq.cell 2;have q54:=(S5.rst s5).hq.cell 4;have f51:=(S5.rst s5).hq.free 1;have f52:=(S5.rst s5).hq.free 2;have f54:=(S5.rst s5).hq.free 4;have l5:=(S5.rst s5).hq.lt;(have m5:w2.heap.size≠w5.heap.size:=by omega);(simp only[qt]))
    |((go_at_call 47)
      refine qk ((w5.setCell ⟨w2.heap.size,1,none⟩ (.string (bs ts5))).alloc (.cells #[.int .i64 (tk5:Nat),.string (bs ts5),.int .i64 (tn5:Nat),.int .i64 (ta5:Nat)] 100)) ?_;refine(qC h6 [61]).mono ?_;rintro e w7 ⟨rfl,i7,b7,s7,t7,T7⟩;rw[jz hG (by decide)]at T7;have S7:=S6.rst s7;(obtain⟨k7,h7⟩:=S7.at hR))
    |((go_at_call 48)
      refine qk (w7) ?_;refine(dC hG 12 1 _ _ _ _ rfl h7).mono ?_;rintro e w8 ⟨i8,b8,x8,A8,C8,rfl,N8,s8,T8,l8⟩;have S9:=(((S7.rst s8).put 4 (.slice (some ⟨w8.heap.size+1,0,none⟩) 1 1) #[.string ⟨#[118,111,108,117,109,101]⟩,.string (bs ts5),.int .i64 0,.int .i64 (at_:Nat),.slice (some ⟨w8.heap.size+1,0,none⟩) 1 1] rfl).alloc (.cells #[.string (bs x8.op),.string (bs x8.s),.int .i64 x8.n,.int .i64 x8.a,.slice A8 x8.l.length C8] 24)).alloc (.cells #[.string (bs x8.op),.string (bs x8.s),.int .i64 x8.n,.int .i64 x8.a,.slice A8 x8.l.length C8] 24);obtain⟨k9,h9⟩:=S9.at hR;have H9:ze (((w8.setCell ⟨w2.heap.size,4,none⟩ (.slice (some ⟨w8.heap.size+1,0,none⟩) 1 1)).alloc (.cells #[.string (bs x8.op),.string (bs x8.s),.int .i64 x8.n,.int .i64 x8.a,.slice A8 x8.l.length C8] 24)).alloc (.cells #[.string (bs x8.op),.string (bs x8.s),.int .i64 x8.n,.int .i64 x8.a,.slice A8 x8.l.length C8] 24)) (w8.heap.size+1) 24 #[.string (bs x8.op),.string (bs x8.s),.int .i64 x8.n,.int .i64 x8.a,.slice A8 x8.l.length C8]:=ze.new_at (by simp);have q84:=(S7.rst s8).hq.cell 4;have f84:=(S7.rst s8).hq.free 4;have l8q:=(S7.rst s8).hq.lt;have l7q:=S7.hq.lt;have z8:=s8.2.2.1.size;(have m8:w2.heap.size≠w8.heap.size:=by omega);(have n8:w2.heap.size≠w8.heap.size+1:=by omega);(simp only[zR]))
    |((go_at_call 47)
      refine qk ((((w8.setCell ⟨w2.heap.size,4,none⟩ (.slice (some ⟨w8.heap.size+1,0,none⟩) 1 1)).alloc (.cells #[.string (bs x8.op),.string (bs x8.s),.int .i64 x8.n,.int .i64 x8.a,.slice A8 x8.l.length C8] 24)).alloc (.cells #[.string (bs x8.op),.string (bs x8.s),.int .i64 x8.n,.int .i64 x8.a,.slice A8 x8.l.length C8] 24))) ?_;refine(qC h9 [59]).mono ?_;rintro e w10 ⟨rfl,i10,b10,s10,t10,T10⟩;rw[jz hG (by decide)]at T10;have S10:=S9.rst s10;have p10:=S10.hp.lt;have r10:=S10.hq.lt;have ca0:=S10.hp.cell 0;have ca1:=S10.hp.cell 1;have ca2:=S10.hp.cell 2;have ca3:=S10.hp.cell 3;have ca4:=S10.hp.cell 4;have fa0:=S10.hp.free 0;have fa1:=S10.hp.free 1;have fa2:=S10.hp.free 2;have fa3:=S10.hp.free 3;have fa4:=S10.hp.free 4;have cb0:=S10.hq.cell 0;have cb1:=S10.hq.cell 1;have cb2:=S10.hq.cell 2;have cb3:=S10.hq.cell 3;(have cb4:=S10.hq.cell 4))
    )
   refine zY rfl rfl (S10.hp.set5 _ _ _ _ _) rfl (fin _ _ ?_);refine⟨i10,b10,.mk zp ts5 0 (at_:Nat) [x8],some ⟨w8.heap.size+1,0,none⟩,1,rfl,?_,qX.set5 S10.st (Nat.le_refl _) hlt _ _ _ _ _,T5.bind ((show zX b5 (qV zp en (ts.drop i5)) ts ((0:Int),[x8]) i8 b8 from T7.bind (f:=λ_=>zt (zC 12) λn=>qT ((0:Int),[n])) (T8.map (λn=>((0:Int),[n])))).bind (T10.map (λ_=>Nd.mk zp ts5 0 (at_:Nat) [x8]))),Nat.le_of_ble_eq_true rfl⟩;exact DP N8 H9 s10.2.2.1 (by omega) (by omega) (by omega) (by omega)
theorem UU{w:World}{rb:Nat}{A:Option Addr}{C:Nat}{ts:zo}{i en:Nat}{k:Int}(h:zF w rb A C ts i en 0 k)(hG:yB ts)(hi:i<ts.length)(hk:ts[i].1.kind=0)(hs:ts[i].1.s=zv):Calls Tryz.prog 22 #[.pointer (some ⟨rb,0,none⟩)] w (qj w rb A C ts i en 0 qi):=by
 have hpx:=Yq (en:=en) hi hk hs (by decide);have hlt:=h.has.lt;have hf:=h.few;have hR:=h
 have hB:∀s,vr 0 ts i s=(zv==s):=by
  intro s;unfold vr;rw[qu hi];unfold yA;rw[hk,hs];rfl
 have hIs:∀(W:World) (k:Int) (s:List UInt8) (b:Bool),zF W rb A C ts i en 0 k→(zv==s)=b→Calls Tryz.prog 43 #[.pointer (some ⟨rb,0,none⟩),.string (bs s)] W λe w'=>e= .returned (.bool b)∧∃q,w'=W.drewN q:=by
  intro W k s b h hb;have:=j7 h s;rw[hB,hb]at this;exact this
 have hpl:∀W k,zF W rb A C ts i en 0 k→Calls Tryz.prog 42 #[.pointer (some ⟨rb,0,none⟩)] W λe w'=>e= .returned (.int .i64 (ts[i].2:Nat))∧Below W.heap.size W w':=by
  intro W k h;refine(jv h).mono ?_;rintro e w' ⟨rfl,q,rfl⟩;rw[jL hi];exact⟨rfl,jG (Below.refl _ _) _⟩
 have h0:=h.kp (zd w (.cells #[.string ⟨#[]⟩,.string ⟨#[]⟩,.int .i64 0,.int .i64 0,.slice none 0 0] 24));have fin:∀(e:Ending) (w':World),qj w rb A C ts i en 0 (λ_ _=>qi en (ts.drop i)) e w'→qj w rb A C ts i en 0 qi e w':=λe w' h=>h
 rw[hpx]at fin;generalize ts[i].2=at_ at hpl fin;clear hpx hs hk hB;have hi5:(i:Int)≤500:=by omega
 go_enter Tryz.func22,Tryz.ntmps22
 go_wp2_with (first
  |((go_at_call 42)
    refine(hpl _ _ h0).mono ?_;rintro e w2 ⟨rfl,hb2⟩;have S3:=(xi (at_:=((at_:Nat):Int)) hR hb2 hlt).alloc (.cells #[.string ⟨#[100,101,118,105,99,101]⟩,.string ⟨#[106,111,117,114,110,97,108]⟩,.string ⟨#[107,101,121]⟩,.string ⟨#[114,111,111,116]⟩,.string ⟨#[118,111,108,117,109,101]⟩,.string ⟨#[101,120,112,111,114,116]⟩] 9);have pq:=S3.pq;(have G3:ze ((w2.alloc (.cells #[.string ⟨#[]⟩,.string ⟨#[]⟩,.int .i64 0,.int .i64 (at_:Nat),.slice none 0 0] 24)).alloc (.cells #[.string ⟨#[100,101,118,105,99,101]⟩,.string ⟨#[106,111,117,114,110,97,108]⟩,.string ⟨#[107,101,121]⟩,.string ⟨#[114,111,111,116]⟩,.string ⟨#[118,111,108,117,109,101]⟩,.string ⟨#[101,120,112,111,114,116]⟩] 9)) (w2.heap.size+1) 9 #[.string ⟨#[100,101,118,105,99,101]⟩,.string ⟨#[106,111,117,114,110,97,108]⟩,.string ⟨#[107,101,121]⟩,.string ⟨#[114,111,111,116]⟩,.string ⟨#[118,111,108,117,109,101]⟩,.string ⟨#[101,120,112,111,114,116]⟩]:=ze.new_at (by simp))))
 go_loopw [5] (λz wr=>∃k:Nat,z= .int .i64 (k:Nat)∧ze wr (w2.heap.size+1) 9 #[.string ⟨#[100,101,118,105,99,101]⟩,.string ⟨#[106,111,117,114,110,97,108]⟩,.string ⟨#[107,101,121]⟩,.string ⟨#[114,111,111,116]⟩,.string ⟨#[118,111,108,117,109,101]⟩,.string ⟨#[101,120,112,111,114,116]⟩]∧((k≤5∧Qj w rb A C ts i en w2.heap.size #[.string ⟨#[]⟩,.string ⟨#[]⟩,.int .i64 0,.int .i64 (at_:Nat),.slice none 0 0] wr i 0)∨(k=6∧Qj w rb A C ts i en w2.heap.size #[.string ⟨#[101,120,112,111,114,116]⟩,.string ⟨#[]⟩,.int .i64 0,.int .i64 (at_:Nat),.slice none 0 0] wr i 0))) (λz _=>7-(intOf z).toNat)
 case atStart=>exact⟨0,rfl,G3,.inl ⟨Nat.zero_le _,S3⟩⟩
 case round =>
  obtain⟨k,rfl,G4,hS⟩:=hrel;have lG4:=G4.lt;rcases hS with⟨hk,S4⟩|⟨rfl,S4⟩
  ·obtain⟨k4,h4⟩:=S4.at hR
   have q0:=S4.hq.cell 0;have f0:=S4.hq.free 0;have lq:=S4.hq.lt;rcases(by omega:k=0∨k=1∨k=2∨k=3∨k=4∨k=5)with rfl|rfl|rfl|rfl|rfl|rfl
   ·have g0:=G4.cell 0
    have hI:=hIs wr k4 zc false h4 rfl;rw[show bs zc=⟨#[100,101,118,105,99,101]⟩from rfl]at hI
    go_wp2_with (first
     |((go_at_call 43)
       refine hI.mono ?_;(rintro e w5 ⟨rfl,q5,rfl⟩)))
    go_roundw
    case rel=>exact⟨1,rfl,G4.drewN q5,.inl ⟨by omega,S4.drewN q5⟩⟩
    case measure=>simp[intOf]
   ·have g0:=G4.cell 1
    have hI:=hIs wr k4 zg false h4 rfl;rw[show bs zg=⟨#[106,111,117,114,110,97,108]⟩from rfl]at hI
    go_wp2_with (first
     |((go_at_call 43)
       refine hI.mono ?_;(rintro e w5 ⟨rfl,q5,rfl⟩)))
    go_roundw
    case rel=>exact⟨2,rfl,G4.drewN q5,.inl ⟨by omega,S4.drewN q5⟩⟩
    case measure=>simp[intOf]
   ·have g0:=G4.cell 2
    have hI:=hIs wr k4 zT false h4 rfl;rw[show bs zT=⟨#[107,101,121]⟩from rfl]at hI
    go_wp2_with (first
     |((go_at_call 43)
       refine hI.mono ?_;(rintro e w5 ⟨rfl,q5,rfl⟩)))
    go_roundw
    case rel=>exact⟨3,rfl,G4.drewN q5,.inl ⟨by omega,S4.drewN q5⟩⟩
    case measure=>simp[intOf]
   ·have g0:=G4.cell 3
    have hI:=hIs wr k4 zD false h4 rfl;rw[show bs zD=⟨#[114,111,111,116]⟩from rfl]at hI
    go_wp2_with (first
     |((go_at_call 43)
       refine hI.mono ?_;(rintro e w5 ⟨rfl,q5,rfl⟩)))
    go_roundw
    case rel=>exact⟨4,rfl,G4.drewN q5,.inl ⟨by omega,S4.drewN q5⟩⟩
    case measure=>simp[intOf]
   ·have g0:=G4.cell 4
    have hI:=hIs wr k4 zp false h4 rfl;rw[show bs zp=⟨#[118,111,108,117,109,101]⟩from rfl]at hI
    go_wp2_with (first
     |((go_at_call 43)
       refine hI.mono ?_;(rintro e w5 ⟨rfl,q5,rfl⟩)))
    go_roundw
    case rel=>exact⟨5,rfl,G4.drewN q5,.inl ⟨by omega,S4.drewN q5⟩⟩
    case measure=>simp[intOf]
   ·have g0:=G4.cell 5
    have hI:=hIs wr k4 zv true h4 rfl;rw[show bs zv=⟨#[101,120,112,111,114,116]⟩from rfl]at hI
    go_wp2_with (first
     |((go_at_call 43)
       refine hI.mono ?_;(rintro e w5 ⟨rfl,q5,rfl⟩)))
    go_roundw
    case rel=>exact⟨6,rfl,(G4.drewN q5).other (by show w2.heap.size+1≠w2.heap.size;omega) _,.inr ⟨rfl,(S4.drewN q5).put 0 _ _ rfl⟩⟩
    case measure=>simp[intOf]
  ·obtain⟨k4,h4⟩:=S4.at hR
   have q0:=S4.hq.cell 0;have lq:=S4.hq.lt;have S5:=S4.step hi;obtain⟨k5,h5⟩:=S5.at hR;have c4:=h4.has.cell 1;have d4:=h4.has.free 1;have l4:=h4.has.lt;simp only[jg,jd,jf]at c4
   go_wp2_with (first
    |((go_at_call 45)
      refine qk (wr.setCell ⟨rb,1,none⟩ (.int .i64 ((i:Int)+1))) ?_;refine(rname_c' h5).mono ?_;rintro e w5 ⟨i5,b5,⟨⟨tk5,ts5,tn5⟩,ta5⟩,rfl,s5,T5,x5⟩;have S6:=((S5.rst s5).put 1 (.string (bs ts5)) #[.string ⟨#[101,120,112,111,114,116]⟩,.string (bs ts5),.int .i64 0,.int .i64 (at_:Nat),.slice none 0 0] rfl).alloc (.cells #[.int .i64 (tk5:Nat),.string (bs ts5),.int .i64 (tn5:Nat),.int .i64 (ta5:Nat)] 100);obtain⟨k6,h6⟩:=S6.at hR;have q5:=(S5.rst s5).hq.cell 0;have q51:=(S5.rst s5).hq.cell 1;have q52:=(S5.rst s5).hq.cell 2;have q54:=(S5.rst s5).hq.cell 4;have f51:=(S5.rst s5).hq.free 1;have f52:=(S5.rst s5).hq.free 2;have f54:=(S5.rst s5).hq.free 4;have l5:=(S5.rst s5).hq.lt;(have m5:w2.heap.size≠w5.heap.size:=by omega);(simp only[qt]))
    )
   have HE:=j7 h6 zO;refine HE.mono ?_;rintro e w7 ⟨rfl,q7,rfl⟩;have S7:=S6.drewN q7;generalize ((w5.setCell ⟨w2.heap.size,1,none⟩ (.string (bs ts5))).alloc (.cells #[.int .i64 (tk5:Nat),.string (bs ts5),.int .i64 (tn5:Nat),.int .i64 (ta5:Nat)] 100)).drewN q7=W7 at S7 ⊢;obtain⟨k7,h7⟩:=S7.at hR;have lq7:=S7.hq.lt;have q72:=S7.hq.cell 2;have f72:=S7.hq.free 2;clear HE;cases hc:vr b5 ts i5 zO
   ·have T8:zX b5 (qV zv en (ts.drop i5)) ts ((0:Int),[]) i5 b5:=by
     show zX b5 (QS (jD [zO]) _ _ en (ts.drop i5)) _ _ _ _;rcases Z1 hc with e|e
     ·exact zX.bad e e _ _ _ _
     ·unfold QS
      rw[if_neg]
      ·exact zX.ret _ _ _ _ _
      ·intro e2
       by_cases hj:i5<ts.length
       ·rw[qu hj]at e e2
        unfold jD at e2;unfold yA at e;simp only[Bool.and_eq_true,beq_iff_eq,List.any_cons,List.any_nil,Bool.or_false]at e2;rw[e2.1,e2.2]at e;simp at e
       ·rw[v8 hj]at e2
        cases e2
    go_wp2_with (first
     |((go_at_call 47)
       refine qk (W7) ?_;refine(qC h7 [59]).mono ?_;rintro e w9 ⟨rfl,i9,b9,s9,t9,T9⟩;rw[jz hG (by decide)]at T9;have S9:=S7.rst s9;have p9:=S9.hp.lt;have r9:=S9.hq.lt;have ca0:=S9.hp.cell 0;have ca1:=S9.hp.cell 1;have ca2:=S9.hp.cell 2;have ca3:=S9.hp.cell 3;have ca4:=S9.hp.cell 4;have fa0:=S9.hp.free 0;have fa1:=S9.hp.free 1;have fa2:=S9.hp.free 2;have fa3:=S9.hp.free 3;have fa4:=S9.hp.free 4;have cb0:=S9.hq.cell 0;have cb1:=S9.hq.cell 1;have cb2:=S9.hq.cell 2;have cb3:=S9.hq.cell 3;(have cb4:=S9.hq.cell 4))
     )
    refine zY rfl rfl (S9.hp.set5 _ _ _ _ _) rfl (fin _ _ ?_);refine⟨i9,b9,.mk zv ts5 0 (at_:Nat) [],none,0,rfl,jB.nil _ _,qX.set5 S9.st (Nat.le_refl _) hlt _ _ _ _ _,T5.bind (T8.bind (T9.map (λ_=>Nd.mk zv ts5 0 (at_:Nat) []))),Nat.le_of_ble_eq_true rfl⟩
   ·obtain⟨rfl,hj,hp⟩:=Zb hc
    have S8:=(S7.step hj).put 2 (.int .i64 1) #[.string ⟨#[101,120,112,111,114,116]⟩,.string (bs ts5),.int .i64 1,.int .i64 (at_:Nat),.slice none 0 0] rfl;obtain⟨k8,h8⟩:=S8.at hR
    have T8:zX 0 (qV zv en (ts.drop i5)) ts ((1:Int),[]) (i5+1) 0:=by
     show zX 0 (QS (jD [zO]) _ _ en (ts.drop i5)) _ _ _ _;obtain⟨e1,e2⟩:=Y4 hG hj (by intro c e;cases e) hp;have hw:jD [zO] ts[i5].1=true:=by unfold jD;rw[e1,e2];rfl
     unfold QS;rw[if_pos (by rw[qu hj];exact hw)];exact(Z2 hj hw).map (λ_=>((1:Int),([]:List Nd)))
    have c7:=h7.has.cell 1;have d7:=h7.has.free 1;have l7:=h7.has.lt;simp only[jg,jd,jf]at c7;have hi7:(i5:Int)≤500:=by omega
    go_wp2_with (first
     |((go_at_call 47)
       refine qk ((W7.setCell ⟨rb,1,none⟩ (.int .i64 ((i5:Int)+1))).setCell ⟨w2.heap.size,2,none⟩ (.int .i64 1)) ?_;refine(qC h8 [59]).mono ?_;rintro e w9 ⟨rfl,i9,b9,s9,t9,T9⟩;rw[jz hG (by decide)]at T9;have S9:=S8.rst s9;have p9:=S9.hp.lt;have r9:=S9.hq.lt;have ca0:=S9.hp.cell 0;have ca1:=S9.hp.cell 1;have ca2:=S9.hp.cell 2;have ca3:=S9.hp.cell 3;have ca4:=S9.hp.cell 4;have fa0:=S9.hp.free 0;have fa1:=S9.hp.free 1;have fa2:=S9.hp.free 2;have fa3:=S9.hp.free 3;have fa4:=S9.hp.free 4;have cb0:=S9.hq.cell 0;have cb1:=S9.hq.cell 1;have cb2:=S9.hq.cell 2;have cb3:=S9.hq.cell 3;(have cb4:=S9.hq.cell 4))
     )
    refine zY rfl rfl (S9.hp.set5 _ _ _ _ _) rfl (fin _ _ ?_);refine⟨i9,b9,.mk zv ts5 1 (at_:Nat) [],none,0,rfl,jB.nil _ _,qX.set5 S9.st (Nat.le_refl _) hlt _ _ _ _ _,T5.bind (T8.bind (T9.map (λ_=>Nd.mk zv ts5 1 (at_:Nat) []))),Nat.le_of_ble_eq_true rfl⟩
theorem FN{w:World}{rb:Nat}{A:Option Addr}{C:Nat}{ts:zo}{i en:Nat}{k:Int}(h:zF w rb A C ts i en 0 k)(hG:yB ts)(hn:∀hi:i<ts.length,ts[i].1.kind=0→ts[i].1.s ∉ jt):Calls Tryz.prog 22 #[.pointer (some ⟨rb,0,none⟩)] w (qj w rb A C ts i en 0 qi):=by
 obtain⟨er,hpx⟩:=zbj (en:=en) hn;have hlt:=h.has.lt;have hR:=h
 have hB:∀s ∈ STS,vr 0 ts i s=false:=by
  intro s hs;cases hc:vr 0 ts i s with
  |false=>rfl
  |true =>
   obtain⟨_,hi,hp⟩:=Zb hc
   obtain⟨e1,e2⟩:=Y4 hG hi (by
    intro c e;rw[e]at hs;simp only[STS,List.mem_cons,List.not_mem_nil,or_false]at hs
    rcases hs with q|q|q|q|q|q<;>cases q) hp
   exact absurd (by rw[e2];exact hs) (hn hi e1)
 have hIs:∀(W:World) (k:Int) (s:List UInt8),zF W rb A C ts i en 0 k→s ∈ STS→Calls Tryz.prog 43 #[.pointer (some ⟨rb,0,none⟩),.string (bs s)] W λe w'=>e= .returned (.bool false)∧∃q,w'=W.drewN q:=by
  intro W k s h hs;have:=j7 h s;rw[hB s hs]at this;exact this
 have hpl:∀W k,zF W rb A C ts i en 0 k→Calls Tryz.prog 42 #[.pointer (some ⟨rb,0,none⟩)] W λe w'=>e= .returned (.int .i64 (yU en (ts.drop i):Nat))∧Below W.heap.size W w':=by
  intro W k h;refine(jv h).mono ?_;rintro e w' ⟨rfl,q,rfl⟩;exact⟨rfl,jG (Below.refl _ _) _⟩
 have h0:=h.kp (zd w (.cells #[.string ⟨#[]⟩,.string ⟨#[]⟩,.int .i64 0,.int .i64 0,.slice none 0 0] 24));generalize yU en (ts.drop i)=at_ at hpl;clear hB;go_enter Tryz.func22,Tryz.ntmps22
 go_wp2_with (first
  |((go_at_call 42)
    refine(hpl _ _ h0).mono ?_;rintro e w2 ⟨rfl,hb2⟩;have S3:=(xi (at_:=((at_:Nat):Int)) hR hb2 hlt).alloc (.cells #[.string ⟨#[100,101,118,105,99,101]⟩,.string ⟨#[106,111,117,114,110,97,108]⟩,.string ⟨#[107,101,121]⟩,.string ⟨#[114,111,111,116]⟩,.string ⟨#[118,111,108,117,109,101]⟩,.string ⟨#[101,120,112,111,114,116]⟩] 9);have pq:=S3.pq;(have G3:ze ((w2.alloc (.cells #[.string ⟨#[]⟩,.string ⟨#[]⟩,.int .i64 0,.int .i64 (at_:Nat),.slice none 0 0] 24)).alloc (.cells #[.string ⟨#[100,101,118,105,99,101]⟩,.string ⟨#[106,111,117,114,110,97,108]⟩,.string ⟨#[107,101,121]⟩,.string ⟨#[114,111,111,116]⟩,.string ⟨#[118,111,108,117,109,101]⟩,.string ⟨#[101,120,112,111,114,116]⟩] 9)) (w2.heap.size+1) 9 zap:=ze.new_at (by simp))))
 go_loopw [5] (λz wr=>∃k:Nat,k≤6∧z= .int .i64 (k:Nat)∧ze wr (w2.heap.size+1) 9 zap∧Qj w rb A C ts i en w2.heap.size #[.string ⟨#[]⟩,.string ⟨#[]⟩,.int .i64 0,.int .i64 (at_:Nat),.slice none 0 0] wr i 0) (λz _=>7-(intOf z).toNat)
 case atStart=>exact⟨0,Nat.zero_le _,rfl,G3,S3⟩
 case round =>
  obtain⟨k,hk6,rfl,G4,S4⟩:=hrel;have lG4:=G4.lt;obtain⟨k4,h4⟩:=S4.at hR;have q0:=S4.hq.cell 0;have lq:=S4.hq.lt;by_cases hk:k<6
  ·have hc:wr.cell? ⟨w2.heap.size+1,k,none⟩=some (.string (bs (STS[k]'hk))):=by rw[G4.cell];exact DB k hk
   have hI:=hIs wr k4 (STS[k]'hk) h4 (List.getElem_mem _);generalize STS[k]'hk=y at hc hI
   go_wp2_with (first
    |((go_at_call 43)
      refine hI.mono ?_;(rintro e w5 ⟨rfl,q5,rfl⟩)))
   go_roundw
   case rel=>exact⟨k+1,by omega,by go_num,G4.drewN q5,S4.drewN q5⟩
   case measure=>simp[intOf];omega
  ·obtain rfl:k=6:=by omega
   go_wp2_with (first
    |((go_at_call 44)
      refine(QP h4 111 (by decide)).mono ?_;rintro e w5 ⟨rfl,b5,k5,hb5,h5,hk5⟩;have S5:=S4.rst (qX.of (Nat.le_refl _) hk5 h5);have p5:=S5.hp.lt;have r5:=S5.hq.lt;have ca0:=S5.hp.cell 0;have ca1:=S5.hp.cell 1;have ca2:=S5.hp.cell 2;have ca3:=S5.hp.cell 3;have ca4:=S5.hp.cell 4;have fa0:=S5.hp.free 0;have fa1:=S5.hp.free 1;have fa2:=S5.hp.free 2;have fa3:=S5.hp.free 3;have fa4:=S5.hp.free 4;have cb0:=S5.hq.cell 0;have cb1:=S5.hq.cell 1;have cb2:=S5.hq.cell 2;have cb3:=S5.hq.cell 3;(have cb4:=S5.hq.cell 4)))
   refine zY rfl rfl (S5.hp.set5 _ _ _ _ _) rfl ?_;exact⟨i,b5,.mk [] [] 0 (at_:Nat) [],none,0,rfl,jB.nil _ _,qX.set5 S5.st (Nat.le_refl _) hlt _ _ _ _ _,zX.err hpx hb5 _ _ _,Nat.zero_le _⟩
theorem dF{w:World}{rb:Nat}{A:Option Addr}{C:Nat}{ts:zo}{i en:Nat}{k:Int}(h:zF w rb A C ts i en 0 k)(hG:yB ts):Calls Tryz.prog 22 #[.pointer (some ⟨rb,0,none⟩)] w (qj w rb A C ts i en 0 qi):=by
 by_cases hw:∃hi:i<ts.length,ts[i].1.kind=0∧ts[i].1.s ∈ jt
 ·obtain⟨hi,hk,hm⟩:=hw
  simp only[jt,List.mem_cons,List.not_mem_nil,or_false]at hm;rcases hm with e|e|e|e|e|e
  ·exact Us h hG hi hk e
  ·exact KE h hG hi hk e
  ·exact Hk h hG hi hk e
  ·exact fe h hG hi hk e
  ·exact kH h hG hi hk e
  ·exact UU h hG hi hk e
 ·exact FN h hG λhi hk hm=>hw ⟨hi,hk,hm⟩
theorem vP{a b:Int}(h:a=b):Ending.returned (.int .i64 a)= .returned (.int .i64 b):=by rw[h]
theorem zZ:ZM 72 zP:=by
 intro c w;go_enter Tryz.func72,Tryz.ntmps72
 go_wp2
 all_goals
  go_ret
  refine⟨zU ?_,rfl⟩;rw[KT,Bool.eq_iff_iff];simp
  try omega
theorem zV:ZM 73 zm:=by
 intro c w;go_enter Tryz.func73,Tryz.ntmps73
 go_wp2
 all_goals
  go_ret
  refine⟨zU ?_,rfl⟩;rw[J5,Bool.eq_iff_iff];simp
  try omega
theorem Xp:ZM 110 zN:=by
 intro c w
 have e:zN c=((zP c||zm c)||decide ((c.toNat:Int)=95)):=by
  unfold zN;rw[Vy];cases zP c<;>cases zm c<;>simp
 rw[e];have hs:=zZ c;have hf:=zV c;cases e1:zP c<;>cases e2:zm c
 all_goals
  rw[e1]at hs;rw[e2]at hf;clear e1 e2 e;go_enter Tryz.func110,Tryz.ntmps110
  go_wp2_with (first
   |(go_at_call 72;refine(hs _).mono ?_;rintro e w' ⟨rfl,rfl⟩)
   |(go_at_call 73;refine(hf _).mono ?_;rintro e w' ⟨rfl,rfl⟩))
  all_goals
   go_ret
   refine⟨zU ?_,rfl⟩;rw[Bool.eq_iff_iff];simp
   try omega
theorem XR:ZM 111 zw:=by
 intro c w;rw[ko];have hf:=zV c;cases e:zm c
 all_goals
  rw[e]at hf;clear e;go_enter Tryz.func111,Tryz.ntmps111
  go_wp2_with (go_at_call 73;refine(hf _).mono ?_;rintro e w' ⟨rfl,rfl⟩)
  all_goals
   go_ret
   refine⟨zU ?_,rfl⟩;rw[Bool.eq_iff_iff];simp
   try omega
theorem Zp(l:List UInt8)(i:Nat)(w:World)(hl:l.length≤2000)(hi:i≤l.length):Calls Tryz.prog 75 #[.string (bs l),.int .i64 (i:Nat)] w λe w'=>e= .returned (.bool (!vf (l.drop i)))∧w'=w:=by
 have hsz:=zi l;have hz2:(bs l).size≤2000:=by omega
 by_cases h:i<l.length
 ·have e0:vf (l.drop i)=vn l[i]:=by rw[List.drop_eq_getElem_cons h];rfl
  have h1:i<(bs l).size:=by omega
  have h2:((i:Nat):Int)<((bs l).size:Int):=by omega
  have hg:=zH l i h1;have hs:=zZ ((bs l)[i]'h1);have he:(!vf (l.drop i))=(!zP ((bs l)[i]'h1)&& !decide (((((bs l)[i]'h1).toNat:Nat):Int)=95)):=by rw[e0,←hg,Vy,Bool.not_or]
  rw[he];cases e1:zP ((bs l)[i]'h1)
  all_goals
   rw[e1]at hs;have HS:Hid ((bs l).size=l.length):=hsz;clear e1 he hg hsz e0;go_enter Tryz.func75,Tryz.ntmps75
   go_wp2_with (go_at_call 72;refine(hs _).mono ?_;rintro e w' ⟨rfl,rfl⟩)
   all_goals
    go_ret
    refine⟨zU ?_,rfl⟩;rw[Bool.eq_iff_iff];simp
    try omega
 ·have e0:vf (l.drop i)=false:=by rw[List.drop_eq_nil_of_le (by omega)];rfl
  have h2:¬((i:Nat):Int)<((bs l).size:Int):=by omega
  rw[e0];have HS:Hid ((bs l).size=l.length):=hsz;clear hsz e0;go_enter Tryz.func75,Tryz.ntmps75
  go_wp2
  go_ret
  exact⟨rfl,rfl⟩
theorem Yo(l:List UInt8)(i:Nat)(w:World)(hl:l.length≤2000)(hi:i≤l.length):Calls Tryz.prog 74 #[.string (bs l),.int .i64 (i:Nat),.int .i64 0] w λe w'=>e= .returned (.int .i64 ((i+zE zN (l.drop i):Nat):Int))∧w'=w:=by
 have hsz:=zi l;have hz2:(bs l).size≤2000:=by omega
 have HS:Hid ((bs l).size=l.length):=hsz;clear hsz;go_enter Tryz.func74,Tryz.ntmps74
 go_wp2
 go_loop [1,7] (λz m=>∃(k:Nat) (b:Bool),k≤zE zN (l.drop i)∧i+k≤l.length∧z= .int .i64 ((i+k:Nat):Int)∧m= .bool b∧(b=false→k=zE zN (l.drop i))) (λz m=>2*(2000-(intOf z).toNat)+(match m with | .bool true=>1|_=>0))
 case atStart=>exact⟨0,true,Nat.zero_le _,by omega,rfl,rfl,λh=>by cases h⟩
 case round =>
  obtain⟨k,b,hk,hkl,rfl,rfl,hb⟩:=hrel
  obtain⟨J,hJ⟩:∃J,J=i+k:=⟨_,rfl⟩
  rw[←hJ];have HJ:Hid (J=i+k):=hJ;clear hJ;have hJ2:J≤2000:=by have:=HJ.out;omega
  by_cases hlt:i+k<l.length
  ·have h1:J<(bs l).size:=by rw[HS.out,HJ.out];exact hlt
   have h2:((J:Nat):Int)<((bs l).size:Int):=by omega
   have hget:(bs l)[J]'h1=l[i+k]:=by rw[zH];simp only[HJ.out]
   cases b
   ·have HE:Hid (k=zE zN (l.drop i)):=hb rfl
    clear hb hget
    go_wp2
    go_ret
    exact⟨vP (by have h8:=HJ.out;have h9:=HE.out;omega),rfl⟩
   ·have ht:=λW=>Xp ((bs l)[J]'h1) W
    cases hc:zN (l[i+k])
    ·have hb2:zN ((bs l)[J]'h1)=false:=by rw[hget];exact hc
     rw[hb2]at ht;have HN:Hid (k=zE zN (l.drop i)):=yh hk hlt hc;clear hb2 hget hc hb
     go_wp2_with (go_at_call 110;refine(ht _).mono ?_;rintro e w' ⟨rfl,rfl⟩)
     go_round
     case rel=>exact⟨k,false,hk,hkl,by rw[HJ.out],rfl,λ_=>HN.out⟩
     case measure=>simp[intOf]
    ·have hb2:zN ((bs l)[J]'h1)=true:=by rw[hget];exact hc
     rw[hb2]at ht;have hn:=(xp hk hlt).2 hc;clear hb2 hget hc hb
     go_wp2_with (go_at_call 110;refine(ht _).mono ?_;rintro e w' ⟨rfl,rfl⟩)
     go_round
     case rel=>exact⟨k+1,true,hn,by omega,by have:=HJ.out;go_num,rfl,λh=>by cases h⟩
     case measure=>simp[intOf];omega
  ·have h2:¬((J:Nat):Int)<((bs l).size:Int):=by rw[HS.out,HJ.out];omega
   have HE:Hid (k=zE zN (l.drop i)):=yY hk hlt hi;clear hb
   go_wp2
   go_ret
   exact⟨vP (by have h8:=HJ.out;have h9:=HE.out;omega),rfl⟩
theorem ZI(l:List UInt8)(i:Nat)(w:World)(hl:l.length≤2000)(hi:i≤l.length):Calls Tryz.prog 74 #[.string (bs l),.int .i64 (i:Nat),.int .i64 1] w λe w'=>e= .returned (.int .i64 ((i+zE zm (l.drop i):Nat):Int))∧w'=w:=by
 have hsz:=zi l;have hz2:(bs l).size≤2000:=by omega
 have HS:Hid ((bs l).size=l.length):=hsz;clear hsz;go_enter Tryz.func74,Tryz.ntmps74
 go_wp2
 go_loop [1,7] (λz m=>∃(k:Nat) (b:Bool),k≤zE zm (l.drop i)∧i+k≤l.length∧z= .int .i64 ((i+k:Nat):Int)∧m= .bool b∧(b=false→k=zE zm (l.drop i))) (λz m=>2*(2000-(intOf z).toNat)+(match m with | .bool true=>1|_=>0))
 case atStart=>exact⟨0,true,Nat.zero_le _,by omega,rfl,rfl,λh=>by cases h⟩
 case round =>
  obtain⟨k,b,hk,hkl,rfl,rfl,hb⟩:=hrel
  obtain⟨J,hJ⟩:∃J,J=i+k:=⟨_,rfl⟩
  rw[←hJ];have HJ:Hid (J=i+k):=hJ;clear hJ;have hJ2:J≤2000:=by have:=HJ.out;omega
  by_cases hlt:i+k<l.length
  ·have h1:J<(bs l).size:=by rw[HS.out,HJ.out];exact hlt
   have h2:((J:Nat):Int)<((bs l).size:Int):=by omega
   have hget:(bs l)[J]'h1=l[i+k]:=by rw[zH];simp only[HJ.out]
   cases b
   ·have HE:Hid (k=zE zm (l.drop i)):=hb rfl
    clear hb hget
    go_wp2
    go_ret
    exact⟨vP (by have h8:=HJ.out;have h9:=HE.out;omega),rfl⟩
   ·have ht:=λW=>zV ((bs l)[J]'h1) W
    cases hc:zm (l[i+k])
    ·have hb2:zm ((bs l)[J]'h1)=false:=by rw[hget];exact hc
     rw[hb2]at ht;have HN:Hid (k=zE zm (l.drop i)):=yh hk hlt hc;clear hb2 hget hc hb
     go_wp2_with (go_at_call 73;refine(ht _).mono ?_;rintro e w' ⟨rfl,rfl⟩)
     go_round
     case rel=>exact⟨k,false,hk,hkl,by rw[HJ.out],rfl,λ_=>HN.out⟩
     case measure=>simp[intOf]
    ·have hb2:zm ((bs l)[J]'h1)=true:=by rw[hget];exact hc
     rw[hb2]at ht;have hn:=(xp hk hlt).2 hc;clear hb2 hget hc hb
     go_wp2_with (go_at_call 73;refine(ht _).mono ?_;rintro e w' ⟨rfl,rfl⟩)
     go_round
     case rel=>exact⟨k+1,true,hn,by omega,by have:=HJ.out;go_num,rfl,λh=>by cases h⟩
     case measure=>simp[intOf];omega
  ·have h2:¬((J:Nat):Int)<((bs l).size:Int):=by rw[HS.out,HJ.out];omega
   have HE:Hid (k=zE zm (l.drop i)):=yY hk hlt hi;clear hb
   go_wp2
   go_ret
   exact⟨vP (by have h8:=HJ.out;have h9:=HE.out;omega),rfl⟩
theorem QN(l:List UInt8)(i:Nat)(w:World)(hl:l.length≤2000)(hi:i≤l.length):Calls Tryz.prog 74 #[.string (bs l),.int .i64 (i:Nat),.int .i64 2] w λe w'=>e= .returned (.int .i64 ((i+zE zw (l.drop i):Nat):Int))∧w'=w:=by
 have hsz:=zi l;have hz2:(bs l).size≤2000:=by omega
 have HS:Hid ((bs l).size=l.length):=hsz;clear hsz;go_enter Tryz.func74,Tryz.ntmps74
 go_wp2
 go_loop [1,7] (λz m=>∃(k:Nat) (b:Bool),k≤zE zw (l.drop i)∧i+k≤l.length∧z= .int .i64 ((i+k:Nat):Int)∧m= .bool b∧(b=false→k=zE zw (l.drop i))) (λz m=>2*(2000-(intOf z).toNat)+(match m with | .bool true=>1|_=>0))
 case atStart=>exact⟨0,true,Nat.zero_le _,by omega,rfl,rfl,λh=>by cases h⟩
 case round =>
  obtain⟨k,b,hk,hkl,rfl,rfl,hb⟩:=hrel
  obtain⟨J,hJ⟩:∃J,J=i+k:=⟨_,rfl⟩
  rw[←hJ];have HJ:Hid (J=i+k):=hJ;clear hJ;have hJ2:J≤2000:=by have:=HJ.out;omega
  by_cases hlt:i+k<l.length
  ·have h1:J<(bs l).size:=by rw[HS.out,HJ.out];exact hlt
   have h2:((J:Nat):Int)<((bs l).size:Int):=by omega
   have hget:(bs l)[J]'h1=l[i+k]:=by rw[zH];simp only[HJ.out]
   cases b
   ·have HE:Hid (k=zE zw (l.drop i)):=hb rfl
    clear hb hget
    go_wp2
    go_ret
    exact⟨vP (by have h8:=HJ.out;have h9:=HE.out;omega),rfl⟩
   ·have ht:=λW=>XR ((bs l)[J]'h1) W
    cases hc:zw (l[i+k])
    ·have hb2:zw ((bs l)[J]'h1)=false:=by rw[hget];exact hc
     rw[hb2]at ht;have HN:Hid (k=zE zw (l.drop i)):=yh hk hlt hc;clear hb2 hget hc hb
     go_wp2_with (go_at_call 111;refine(ht _).mono ?_;rintro e w' ⟨rfl,rfl⟩)
     go_round
     case rel=>exact⟨k,false,hk,hkl,by rw[HJ.out],rfl,λ_=>HN.out⟩
     case measure=>simp[intOf]
    ·have hb2:zw ((bs l)[J]'h1)=true:=by rw[hget];exact hc
     rw[hb2]at ht;have hn:=(xp hk hlt).2 hc;clear hb2 hget hc hb
     go_wp2_with (go_at_call 111;refine(ht _).mono ?_;rintro e w' ⟨rfl,rfl⟩)
     go_round
     case rel=>exact⟨k+1,true,hn,by omega,by have:=HJ.out;go_num,rfl,λh=>by cases h⟩
     case measure=>simp[intOf];omega
  ·have h2:¬((J:Nat):Int)<((bs l).size:Int):=by rw[HS.out,HJ.out];omega
   have HE:Hid (k=zE zw (l.drop i)):=yY hk hlt hi;clear hb
   go_wp2
   go_ret
   exact⟨vP (by have h8:=HJ.out;have h9:=HE.out;omega),rfl⟩
theorem DA{c:UInt8}(h:ja c=true):(c.toNat:Int)=9∨(c.toNat:Int)=10∨(c.toNat:Int)=13∨(c.toNat:Int)=32:=by
 rw[VB]at h;simp at h;omega
theorem DC{c:UInt8}(h:ja c=false):¬(c.toNat:Int)=9∧¬(c.toNat:Int)=10∧¬(c.toNat:Int)=13∧¬(c.toNat:Int)=32:=by
 rw[VB]at h;simp at h;omega
theorem Uz{c:UInt8}{k:Nat}(h:c.toNat=k):c=UInt8.ofNat k:=by
 apply UInt8.toNat_inj.1;rw[h];simp;have:=c.toNat_lt;omega
theorem Gc{l:List UInt8}{j:Nat}(h:j<l.length):vJ (l.drop j)=true↔ ∃h2:j+1<l.length,l[j]=47∧l[j+1]=47:=by
 rw[List.drop_eq_getElem_cons h];by_cases h2:j+1<l.length
 ·rw[List.drop_eq_getElem_cons h2]
  simp only[vJ,List.take_succ_cons,List.take_zero,beq_iff_eq,List.cons.injEq,and_true];exact⟨λh=>⟨h2,h⟩,λ⟨_,h⟩=>h⟩
 ·rw[List.drop_eq_nil_of_le (by omega)]
  constructor
  ·intro h;simp[vJ]at h
  ·rintro⟨h3,_⟩;exact absurd h3 h2
theorem D8{l:List UInt8}{j:Nat}(h:j<l.length)(hb:ja l[j]=true):qJ false (l.drop j)=qJ false (l.drop (j+1))+1:=by
 rw[List.drop_eq_getElem_cons h,qJ,if_pos hb]
theorem g9{l:List UInt8}{j:Nat}(h:j<l.length)(hb:ja l[j]=false):zE ja (l.drop j)=0:=by
 rw[List.drop_eq_getElem_cons h,qR,hb];simp
theorem uC(l:List UInt8)(i:Nat)(w:World)(hl:l.length≤2000)(hi:i≤l.length):Calls Tryz.prog 40 #[.string (bs l),.int .i64 (i:Nat)] w λe w'=>e= .returned (.int .i64 ((i+qJ false (l.drop i):Nat):Int))∧w'=w:=by
 have hsz:=zi l;have hz2:(bs l).size≤2000:=by omega
 have HS:Hid ((bs l).size=l.length):=hsz;clear hsz
 obtain⟨R,hR⟩:∃R,R=i+qJ false (l.drop i):=⟨_,rfl⟩
 rw[←hR];have HR:Hid (R=i+qJ false (l.drop i)):=hR;clear hR;go_enter Tryz.func40,Tryz.ntmps40
 go_wp2
 go_loop [1] (λz=>∃j:Nat,j≤l.length∧z= .int .i64 (j:Nat)∧R=j+qJ false (l.drop j)) (λz=>2000-(intOf z).toNat)
 case atStart=>exact⟨i,hi,rfl,HR.out⟩
 case round =>
  obtain⟨J,hJl,rfl,hR⟩:=hrel;have HRJ:Hid (R=J+qJ false (l.drop J)):=hR;clear hR;have hJ2:J≤2000:=by omega
  by_cases hlt:J<l.length
  ·have h1:J<(bs l).size:=by rw[HS.out];exact hlt
   have h2:((J:Nat):Int)<((bs l).size:Int):=by omega
   have hget:(bs l)[J]'h1=l[J]:=zH l J h1;cases hb:ja l[J]
   ·have hn:=DC (show ja ((bs l)[J]'h1)=false by rw[hget];exact hb)
    obtain⟨n1,n2,n3,n4⟩:=hn;have o1:(((((bs l)[J]'h1).toNat:Nat):Int)==9)=false:=by simpa using n1
    have o2:(((((bs l)[J]'h1).toNat:Nat):Int)==10)=false:=by simpa using n2
    have o3:(((((bs l)[J]'h1).toNat:Nat):Int)==13)=false:=by simpa using n3
    have o4:(((((bs l)[J]'h1).toNat:Nat):Int)==32)=false:=by simpa using n4
    cases hno:vJ (l.drop J)
    ·have HE:Hid (R=J):=by show R=J;rw[HRJ.out,KG (g9 hlt hb) hno];rfl
     have hnn:¬ ∃h2:J+1<l.length,l[J]=47∧l[J+1]=47:=λh=>by rw[(Gc hlt).2 h]at hno;cases hno
     by_cases ha:J+1<l.length
     ·have a1:J+1<(bs l).size:=by rw[HS.out];exact ha
      have a2:((J:Nat):Int)+1<((bs l).size:Int):=by omega
      by_cases hv:((((bs l)[J]'h1).toNat:Nat):Int)=47
      ·have hv2:¬((((bs l)[J+1]'a1).toNat:Nat):Int)=47:=by
        intro e;apply hnn;refine⟨ha,?_,?_⟩
        ·rw[←hget];exact Uz (k:=47) (by omega)
        ·rw[←zH l (J+1) a1];exact Uz (k:=47) (by omega)
       have o5:(((((bs l)[J+1]'a1).toNat:Nat):Int)==47)=false:=by simpa using hv2
       clear hb hno hnn hget o1 o2 o3 o4 n1 n2 n3 n4
       go_wp2
       go_ret
       exact⟨vP (by rw[HE.out]),rfl⟩
      ·have o5:(((((bs l)[J]'h1).toNat:Nat):Int)==47)=false:=by simpa using hv
       clear hb hno hnn hget
       go_wp2
       go_ret
       exact⟨vP (by rw[HE.out]),rfl⟩
     ·have a2:¬((J:Nat):Int)+1<((bs l).size:Int):=by rw[HS.out];omega
      clear hb hno hnn hget
      go_wp2
      go_ret
      exact⟨vP (by rw[HE.out]),rfl⟩
    ·obtain⟨ha,hv,hv2⟩:=(Gc hlt).1 hno
     have a1:J+1<(bs l).size:=by rw[HS.out];exact ha
     have a2:((J:Nat):Int)+1<((bs l).size:Int):=by omega
     have b1:((((bs l)[J]'h1).toNat:Nat):Int)=47:=by rw[show(bs l)[J]'h1=47 from hget.trans hv];rfl
     have b2:((((bs l)[J+1]'a1).toNat:Nat):Int)=47:=by rw[show(bs l)[J+1]'a1=47 from(zH l (J+1) a1).trans hv2];rfl
     have hsn:=Qm hno
     have hE2:R=J+zE qU (l.drop J)+qJ false (l.drop (J+zE qU (l.drop J))):=by
      rw[HRJ.out,hsn.1,List.drop_drop];omega
     have HE:Hid (R=J+zE qU (l.drop J)+qJ false (l.drop (J+zE qU (l.drop J)))):=hE2;have hc2:=hsn.2;clear hb hno hget hv hv2 hsn hE2 o1 o2 o3 o4 n1 n2 n3 n4
     go_wp2
     go_loop [1] (λz=>∃k:Nat,k≤zE qU (l.drop J)∧J+k≤l.length∧z= .int .i64 ((J+k:Nat):Int)) (λz=>2000-(intOf z).toNat)
     case atStart=>exact⟨0,Nat.zero_le _,by omega,rfl⟩
     case round =>
      obtain⟨k,hk,hkl,rfl⟩:=hrel
      obtain⟨K,hK⟩:∃K,K=J+k:=⟨_,rfl⟩
      rw[←hK];have HK:Hid (K=J+k):=hK;clear hK;have hK2:K≤2000:=by have:=HK.out;omega
      by_cases hlt3:J+k<l.length
      ·have d1:K<(bs l).size:=by rw[HS.out,HK.out];exact hlt3
       have d2:((K:Nat):Int)<((bs l).size:Int):=by omega
       have dg:(bs l)[K]'d1=l[J+k]:=by rw[zH];simp only[HK.out]
       cases hc:qU (l[J+k])
       ·have e1:((((bs l)[K]'d1).toNat:Nat):Int)=10:=by rw[dg];rw[JO]at hc;simpa using hc
        have HN:Hid (k=zE qU (l.drop J)):=yh hk hlt3 hc;clear dg hc
        go_wp2
        go_round
        case rel=>exact⟨J+zE qU (l.drop J),by have:=HN.out;omega,by have h8:=HN.out;have h9:=HK.out;rw[←h8,←h9],HE.out⟩
        case measure=>have h8:=HN.out;have h9:=HK.out;simp[intOf];omega
       ·have e1:¬((((bs l)[K]'d1).toNat:Nat):Int)=10:=by rw[dg];rw[JO]at hc;simpa using hc
        have hn:=(xp hk hlt3).2 hc;clear dg hc
        go_wp2
        go_round
        case rel=>exact⟨k+1,hn,by omega,by have:=HK.out;go_num⟩
        case measure=>simp[intOf];omega
      ·have d2:¬((K:Nat):Int)<((bs l).size:Int):=by rw[HS.out,HK.out];omega
       have HN:Hid (k=zE qU (l.drop J)):=yY hk hlt3 (by omega)
       go_wp2
       go_round
       case rel=>exact⟨J+zE qU (l.drop J),by have:=HN.out;omega,by have h8:=HN.out;have h9:=HK.out;rw[←h8,←h9],HE.out⟩
       case measure=>have h8:=HN.out;have h9:=HK.out;simp[intOf];omega
   ·have hvs:=DA (show ja ((bs l)[J]'h1)=true by rw[hget];exact hb)
    have HE:Hid (R=J+1+qJ false (l.drop (J+1))):=by show R=_;rw[HRJ.out,D8 hlt hb];omega
    clear hb hget;rcases hvs with hv|hv|hv|hv
    all_goals
     go_wp2
     go_round
     case rel=>exact⟨J+1,by omega,by go_num,HE.out⟩
     case measure=>simp[intOf];omega
  ·have h2:¬((J:Nat):Int)<((bs l).size:Int):=by rw[HS.out];omega
   have HE:Hid (R=J):=by show R=J;rw[HRJ.out,List.drop_eq_nil_of_le (by omega)];rfl
   go_wp2
   go_ret
   exact⟨vP (by rw[HE.out]),rfl⟩
def vF(t:Tk)(p:Nat):Array Value:=#[.int .i64 (t.kind:Nat),.string (bs t.s),.int .i64 (t.n:Nat),.int .i64 (p:Nat)]
def yQ(w:World)(i:Nat)(t:Tk)(E:Nat)(er:Int)(a:Int)(e:Ending)(w':World):Prop:=e= .returned (.tuple #[.agg (vF t i),.int .i64 (E:Nat),.int .i64 er,.int .i64 a])∧Below w.heap.size w w'
theorem Gf{c:UInt8}(h:zP c=true):zm c=false:=by
 simp[zP]at h;simp[zm];omega
theorem xD:bs []=⟨#[]⟩:=rfl
theorem jc{w:World}{o1:Obj}(o2:Obj):Below w.heap.size w ((w.alloc o1).alloc o2):=((Below.refl _ _).alloc (Nat.le_refl _) _).alloc (by simp) _
theorem GG{w:World}{l:List UInt8}{i:Nat}(hi:i<l.length)(hl:l.length≤2000)(k1:zP l[i]=true)(h:¬16<zE zN (l.drop i)):
 Calls Tryz.prog 41 #[.string (bs l),.int .i64 (i:Nat)] w (yQ w i ⟨0,(l.drop i).take (zE zN (l.drop i)),0⟩ (i+zE zN (l.drop i)) 0 (-1)):=by
 have hsz:=zi l;have h1:i<(bs l).size:=by omega
 have h2:((i:Nat):Int)<((bs l).size:Int):=by omega
 have hi2:i≤2000:=by omega
 have hz2:(bs l).size≤2000:=by omega
 have k2:=Gf k1;have hc1:zP ((bs l)[i]'h1)=true:=by rw[zH];exact k1
 have hs1:=zZ ((bs l)[i]'h1);rw[hc1]at hs1;clear hc1 k1;have hc2:zm ((bs l)[i]'h1)=false:=by rw[zH];exact k2
 have hs2:=zV ((bs l)[i]'h1);rw[hc2]at hs2;clear hc2 k2;have hen:=λW=>Yo l i W hl (by omega)
 obtain⟨J,hJ⟩:∃J,J=(i+zE zN (l.drop i)):=⟨_,rfl⟩
 rw[←hJ]at hen ⊢
 have hJl:J≤l.length:=by
  have:=j5 zN (l.drop i);rw[List.length_drop]at this;omega
 have hJ2:J≤2000:=by omega
 have g1:¬(16:Int)<((J:Nat):Int)-((i:Nat):Int):=by omega
 have g2:((i:Nat):Int)≤((J:Nat):Int):=by omega
 have g3:((J:Nat):Int)≤((bs l).size:Int):=by omega
 have hx:(bs l).extract i J=bs ((l.drop i).take (zE zN (l.drop i))):=by rw[qK,hJ,Nat.add_sub_cancel_left]
 generalize (l.drop i).take (zE zN (l.drop i))=X at hx ⊢;clear hJ;have HS:Hid ((bs l).size=l.length):=hsz;clear hsz;go_enter Tryz.func41,Tryz.ntmps41
 go_wp2_with (first
  |(go_at_call 72;refine(hs1 _).mono ?_;rintro e w' ⟨rfl,rfl⟩)
  |(go_at_call 73;refine(hs2 _).mono ?_;rintro e w' ⟨rfl,rfl⟩)
  |(go_at_call 74;refine(hen _).mono ?_;rintro e w' ⟨rfl,rfl⟩))
 exact bodyPost_ret (v:= .tuple #[.agg (vF ⟨0,X,0⟩ i),.int .i64 ((J:Nat):Int),.int .i64 0,.int .i64 (-1)]) (by simp[results,Tryz.results41,go_sem,vF]) rfl ⟨rfl,jc _⟩
theorem ug{w:World}{l:List UInt8}{i:Nat}(hi:i<l.length)(hl:l.length≤2000)(k1:zP l[i]=true)(h:16<zE zN (l.drop i)):
 Calls Tryz.prog 41 #[.string (bs l),.int .i64 (i:Nat)] w (yQ w i ⟨0,[],0⟩ (i+zE zN (l.drop i)) 102 (i:Nat)):=by
 have hsz:=zi l;have h1:i<(bs l).size:=by omega
 have h2:((i:Nat):Int)<((bs l).size:Int):=by omega
 have hi2:i≤2000:=by omega
 have hz2:(bs l).size≤2000:=by omega
 have k2:=Gf k1;have hc1:zP ((bs l)[i]'h1)=true:=by rw[zH];exact k1
 have hs1:=zZ ((bs l)[i]'h1);rw[hc1]at hs1;clear hc1 k1;have hc2:zm ((bs l)[i]'h1)=false:=by rw[zH];exact k2
 have hs2:=zV ((bs l)[i]'h1);rw[hc2]at hs2;clear hc2 k2;have hen:=λW=>Yo l i W hl (by omega)
 obtain⟨J,hJ⟩:∃J,J=(i+zE zN (l.drop i)):=⟨_,rfl⟩
 rw[←hJ]at hen ⊢
 have hJl:J≤l.length:=by
  have:=j5 zN (l.drop i);rw[List.length_drop]at this;omega
 have hJ2:J≤2000:=by omega
 have g1:(16:Int)<((J:Nat):Int)-((i:Nat):Int):=by omega
 clear hJ;have HS:Hid ((bs l).size=l.length):=hsz;clear hsz;go_enter Tryz.func41,Tryz.ntmps41
 go_wp2_with (first
  |(go_at_call 72;refine(hs1 _).mono ?_;rintro e w' ⟨rfl,rfl⟩)
  |(go_at_call 73;refine(hs2 _).mono ?_;rintro e w' ⟨rfl,rfl⟩)
  |(go_at_call 74;refine(hen _).mono ?_;rintro e w' ⟨rfl,rfl⟩))
 exact bodyPost_ret (v:= .tuple #[.agg (vF ⟨0,[],0⟩ i),.int .i64 ((J:Nat):Int),.int .i64 102,.int .i64 (i:Nat)]) (by simp[results,Tryz.results41,go_sem,vF,xD]) rfl ⟨rfl,jc _⟩
theorem gv{w:World}{l:List UInt8}{i:Nat}(hi:i<l.length)(hl:l.length≤2000)(k1:zP l[i]=false)(k2:zm l[i]=true)(h:9<zE zm (l.drop i)):
 Calls Tryz.prog 41 #[.string (bs l),.int .i64 (i:Nat)] w (yQ w i ⟨0,[],0⟩ (i+zE zm (l.drop i)) 102 (i:Nat)):=by
 have hsz:=zi l;have h1:i<(bs l).size:=by omega
 have h2:((i:Nat):Int)<((bs l).size:Int):=by omega
 have hi2:i≤2000:=by omega
 have hz2:(bs l).size≤2000:=by omega
 have hc1:zP ((bs l)[i]'h1)=false:=by rw[zH];exact k1
 have hs1:=zZ ((bs l)[i]'h1);rw[hc1]at hs1;clear hc1 k1;have hc2:zm ((bs l)[i]'h1)=true:=by rw[zH];exact k2
 have hs2:=zV ((bs l)[i]'h1);rw[hc2]at hs2;clear hc2 k2;have hen:=λW=>ZI l i W hl (by omega)
 obtain⟨J,hJ⟩:∃J,J=(i+zE zm (l.drop i)):=⟨_,rfl⟩
 rw[←hJ]at hen ⊢
 have hJl:J≤l.length:=by
  have:=j5 zm (l.drop i);rw[List.length_drop]at this;omega
 have hJ2:J≤2000:=by omega
 have hba:=λW=>Zp l J W hl hJl
 have g1:(9:Int)<((J:Nat):Int)-((i:Nat):Int):=by omega
 generalize (!vf (l.drop J))=bb at hba;clear hJ;have HS:Hid ((bs l).size=l.length):=hsz;clear hsz;go_enter Tryz.func41,Tryz.ntmps41
 go_wp2_with (first
  |(go_at_call 72;refine(hs1 _).mono ?_;rintro e w' ⟨rfl,rfl⟩)
  |(go_at_call 73;refine(hs2 _).mono ?_;rintro e w' ⟨rfl,rfl⟩)
  |(go_at_call 74;refine(hen _).mono ?_;rintro e w' ⟨rfl,rfl⟩)
  |(go_at_call 75;refine(hba _).mono ?_;rintro e w' ⟨rfl,rfl⟩))
 exact bodyPost_ret (v:= .tuple #[.agg (vF ⟨0,[],0⟩ i),.int .i64 ((J:Nat):Int),.int .i64 102,.int .i64 (i:Nat)]) (by simp[results,Tryz.results41,go_sem,vF,xD]) rfl ⟨rfl,jc _⟩
theorem GT{w:World}{l:List UInt8}{i:Nat}(hi:i<l.length)(hl:l.length≤2000)(k1:zP l[i]=false)(k2:zm l[i]=true)(h:¬9<zE zm (l.drop i))(k3:vf (l.drop (i+zE zm (l.drop i)))=true):
 Calls Tryz.prog 41 #[.string (bs l),.int .i64 (i:Nat)] w (yQ w i ⟨0,[],0⟩ (i+zE zm (l.drop i)) 101 ((i+zE zm (l.drop i):Nat):Int)):=by
 have hsz:=zi l;have h1:i<(bs l).size:=by omega
 have h2:((i:Nat):Int)<((bs l).size:Int):=by omega
 have hi2:i≤2000:=by omega
 have hz2:(bs l).size≤2000:=by omega
 have hc1:zP ((bs l)[i]'h1)=false:=by rw[zH];exact k1
 have hs1:=zZ ((bs l)[i]'h1);rw[hc1]at hs1;clear hc1 k1;have hc2:zm ((bs l)[i]'h1)=true:=by rw[zH];exact k2
 have hs2:=zV ((bs l)[i]'h1);rw[hc2]at hs2;clear hc2 k2;have hen:=λW=>ZI l i W hl (by omega)
 obtain⟨J,hJ⟩:∃J,J=(i+zE zm (l.drop i)):=⟨_,rfl⟩
 rw[←hJ]at hen ⊢
 have hJl:J≤l.length:=by
  have:=j5 zm (l.drop i);rw[List.length_drop]at this;omega
 have hJ2:J≤2000:=by omega
 have hba:=λW=>Zp l J W hl hJl
 rw[show vf (l.drop J)=true by rw[hJ];exact k3]at hba;have g1:¬(9:Int)<((J:Nat):Int)-((i:Nat):Int):=by omega
 clear hJ k3;have HS:Hid ((bs l).size=l.length):=hsz;clear hsz;go_enter Tryz.func41,Tryz.ntmps41
 go_wp2_with (first
  |(go_at_call 72;refine(hs1 _).mono ?_;rintro e w' ⟨rfl,rfl⟩)
  |(go_at_call 73;refine(hs2 _).mono ?_;rintro e w' ⟨rfl,rfl⟩)
  |(go_at_call 74;refine(hen _).mono ?_;rintro e w' ⟨rfl,rfl⟩)
  |(go_at_call 75;refine(hba _).mono ?_;rintro e w' ⟨rfl,rfl⟩))
 exact bodyPost_ret (v:= .tuple #[.agg (vF ⟨0,[],0⟩ i),.int .i64 ((J:Nat):Int),.int .i64 101,.int .i64 ((J:Nat):Int)]) (by simp[results,Tryz.results41,go_sem,vF,xD]) rfl ⟨rfl,jc _⟩
theorem gd{w:World}{l:List UInt8}{i:Nat}(hi:i<l.length)(hl:l.length≤2000)(k4:l[i]=36)(h:zE zw (l.drop (i+1))=0):
 Calls Tryz.prog 41 #[.string (bs l),.int .i64 (i:Nat)] w (yQ w i ⟨0,[],0⟩ (i+1) 101 ((i+1:Nat):Int)):=by
 have hsz:=zi l;have h1:i<(bs l).size:=by omega
 have h2:((i:Nat):Int)<((bs l).size:Int):=by omega
 have hi2:i≤2000:=by omega
 have hz2:(bs l).size≤2000:=by omega
 have k4':(bs l)[i]'h1=36:=by rw[zH];exact k4
 have k1:zP ((bs l)[i]'h1)=false:=by rw[k4'];decide
 have k2:zm ((bs l)[i]'h1)=false:=by rw[k4'];decide
 have hs1:=zZ ((bs l)[i]'h1);rw[k1]at hs1;have hs2:=zV ((bs l)[i]'h1);rw[k2]at hs2;have hv:((((bs l)[i]'h1).toNat:Nat):Int)=36:=by rw[k4'];rfl
 rw[hv]at hs1 hs2;clear k1 k2 k4 k4';have hen:=λW=>QN l (i+1) W hl (by omega)
 rw[h,Nat.add_zero,show(((i+1:Nat):Nat):Int)=((i:Nat):Int)+1 by omega]at hen;have hba:=λW=>Zp l (i+1) W hl (by omega)
 rw[show(((i+1:Nat):Nat):Int)=((i:Nat):Int)+1 by omega]at hba;generalize (!vf (l.drop (i+1)))=bb at hba;have HS:Hid ((bs l).size=l.length):=hsz;clear hsz;go_enter Tryz.func41,Tryz.ntmps41
 go_wp2_with (first
  |(go_at_call 72;refine(hs1 _).mono ?_;rintro e w' ⟨rfl,rfl⟩)
  |(go_at_call 73;refine(hs2 _).mono ?_;rintro e w' ⟨rfl,rfl⟩)
  |(go_at_call 74;refine(hen _).mono ?_;rintro e w' ⟨rfl,rfl⟩)
  |(go_at_call 75;refine(hba _).mono ?_;rintro e w' ⟨rfl,rfl⟩))
 exact bodyPost_ret (v:= .tuple #[.agg (vF ⟨0,[],0⟩ i),.int .i64 (((i+1):Nat):Int),.int .i64 101,.int .i64 ((i+1:Nat):Int)]) (by simp[results,Tryz.results41,go_sem,vF,xD]) rfl ⟨rfl,jc _⟩
theorem GJ{w:World}{l:List UInt8}{i:Nat}(hi:i<l.length)(hl:l.length≤2000)(k4:l[i]=36)(h:128<zE zw (l.drop (i+1))):
 Calls Tryz.prog 41 #[.string (bs l),.int .i64 (i:Nat)] w (yQ w i ⟨0,[],0⟩ (i+1+zE zw (l.drop (i+1))) 102 (i:Nat)):=by
 have hsz:=zi l;have h1:i<(bs l).size:=by omega
 have h2:((i:Nat):Int)<((bs l).size:Int):=by omega
 have hi2:i≤2000:=by omega
 have hz2:(bs l).size≤2000:=by omega
 have k4':(bs l)[i]'h1=36:=by rw[zH];exact k4
 have k1:zP ((bs l)[i]'h1)=false:=by rw[k4'];decide
 have k2:zm ((bs l)[i]'h1)=false:=by rw[k4'];decide
 have hs1:=zZ ((bs l)[i]'h1);rw[k1]at hs1;have hs2:=zV ((bs l)[i]'h1);rw[k2]at hs2;have hv:((((bs l)[i]'h1).toNat:Nat):Int)=36:=by rw[k4'];rfl
 rw[hv]at hs1 hs2;clear k1 k2 k4 k4';have hen:=λW=>QN l (i+1) W hl (by omega)
 obtain⟨J,hJ⟩:∃J,J=(i+1+zE zw (l.drop (i+1))):=⟨_,rfl⟩
 rw[←hJ]at hen ⊢
 have hJl:J≤l.length:=by
  have:=j5 zw (l.drop (i+1));rw[List.length_drop]at this;omega
 have hJ2:J≤2000:=by omega
 have ei:(((i+1:Nat):Nat):Int)=((i:Nat):Int)+1:=by omega
 rw[ei]at hen;have hba:=λW=>Zp l J W hl hJl
 generalize (!vf (l.drop J))=bb at hba;have g1:¬((J:Nat):Int)=((i:Nat):Int)+1:=by omega
 have g2:(128:Int)<((J:Nat):Int)-((i:Nat):Int)-1:=by omega
 clear hJ;have HS:Hid ((bs l).size=l.length):=hsz;clear hsz;go_enter Tryz.func41,Tryz.ntmps41
 go_wp2_with (first
  |(go_at_call 72;refine(hs1 _).mono ?_;rintro e w' ⟨rfl,rfl⟩)
  |(go_at_call 73;refine(hs2 _).mono ?_;rintro e w' ⟨rfl,rfl⟩)
  |(go_at_call 74;refine(hen _).mono ?_;rintro e w' ⟨rfl,rfl⟩)
  |(go_at_call 75;refine(hba _).mono ?_;rintro e w' ⟨rfl,rfl⟩))
 exact bodyPost_ret (v:= .tuple #[.agg (vF ⟨0,[],0⟩ i),.int .i64 ((J:Nat):Int),.int .i64 102,.int .i64 (i:Nat)]) (by simp[results,Tryz.results41,go_sem,vF,xD]) rfl ⟨rfl,jc _⟩
theorem Gm{w:World}{l:List UInt8}{i:Nat}(hi:i<l.length)(hl:l.length≤2000)(k4:l[i]=36)(h0:zE zw (l.drop (i+1))≠0)(h:¬128<zE zw (l.drop (i+1)))(k3:vf (l.drop (i+1+zE zw (l.drop (i+1))))=true):
 Calls Tryz.prog 41 #[.string (bs l),.int .i64 (i:Nat)] w (yQ w i ⟨0,[],0⟩ (i+1+zE zw (l.drop (i+1))) 101 ((i+1+zE zw (l.drop (i+1)):Nat):Int)):=by
 have hsz:=zi l;have h1:i<(bs l).size:=by omega
 have h2:((i:Nat):Int)<((bs l).size:Int):=by omega
 have hi2:i≤2000:=by omega
 have hz2:(bs l).size≤2000:=by omega
 have k4':(bs l)[i]'h1=36:=by rw[zH];exact k4
 have k1:zP ((bs l)[i]'h1)=false:=by rw[k4'];decide
 have k2:zm ((bs l)[i]'h1)=false:=by rw[k4'];decide
 have hs1:=zZ ((bs l)[i]'h1);rw[k1]at hs1;have hs2:=zV ((bs l)[i]'h1);rw[k2]at hs2;have hv:((((bs l)[i]'h1).toNat:Nat):Int)=36:=by rw[k4'];rfl
 rw[hv]at hs1 hs2;clear k1 k2 k4 k4';have hen:=λW=>QN l (i+1) W hl (by omega)
 obtain⟨J,hJ⟩:∃J,J=(i+1+zE zw (l.drop (i+1))):=⟨_,rfl⟩
 rw[←hJ]at hen ⊢
 have hJl:J≤l.length:=by
  have:=j5 zw (l.drop (i+1));rw[List.length_drop]at this;omega
 have hJ2:J≤2000:=by omega
 have ei:(((i+1:Nat):Nat):Int)=((i:Nat):Int)+1:=by omega
 rw[ei]at hen;have hba:=λW=>Zp l J W hl hJl
 rw[show vf (l.drop J)=true by rw[hJ];exact k3]at hba;have g1:¬((J:Nat):Int)=((i:Nat):Int)+1:=by omega
 have g2:¬(128:Int)<((J:Nat):Int)-((i:Nat):Int)-1:=by omega
 clear hJ k3;have HS:Hid ((bs l).size=l.length):=hsz;clear hsz;go_enter Tryz.func41,Tryz.ntmps41
 go_wp2_with (first
  |(go_at_call 72;refine(hs1 _).mono ?_;rintro e w' ⟨rfl,rfl⟩)
  |(go_at_call 73;refine(hs2 _).mono ?_;rintro e w' ⟨rfl,rfl⟩)
  |(go_at_call 74;refine(hen _).mono ?_;rintro e w' ⟨rfl,rfl⟩)
  |(go_at_call 75;refine(hba _).mono ?_;rintro e w' ⟨rfl,rfl⟩))
 exact bodyPost_ret (v:= .tuple #[.agg (vF ⟨0,[],0⟩ i),.int .i64 ((J:Nat):Int),.int .i64 101,.int .i64 ((J:Nat):Int)]) (by simp[results,Tryz.results41,go_sem,vF,xD]) rfl ⟨rfl,jc _⟩
theorem fj{w:World}{l:List UInt8}{i:Nat}(hi:i<l.length)(hl:l.length≤2000)(k4:l[i]=36)(h0:zE zw (l.drop (i+1))≠0)(h:¬128<zE zw (l.drop (i+1)))(k3:vf (l.drop (i+1+zE zw (l.drop (i+1))))=false):
 Calls Tryz.prog 41 #[.string (bs l),.int .i64 (i:Nat)] w (yQ w i ⟨2,(l.drop (i+1)).take (zE zw (l.drop (i+1))),0⟩ (i+1+zE zw (l.drop (i+1))) 0 (-1)):=by
 have hsz:=zi l;have h1:i<(bs l).size:=by omega
 have h2:((i:Nat):Int)<((bs l).size:Int):=by omega
 have hi2:i≤2000:=by omega
 have hz2:(bs l).size≤2000:=by omega
 have k4':(bs l)[i]'h1=36:=by rw[zH];exact k4
 have k1:zP ((bs l)[i]'h1)=false:=by rw[k4'];decide
 have k2:zm ((bs l)[i]'h1)=false:=by rw[k4'];decide
 have hs1:=zZ ((bs l)[i]'h1);rw[k1]at hs1;have hs2:=zV ((bs l)[i]'h1);rw[k2]at hs2;have hv:((((bs l)[i]'h1).toNat:Nat):Int)=36:=by rw[k4'];rfl
 rw[hv]at hs1 hs2;clear k1 k2 k4 k4';have hen:=λW=>QN l (i+1) W hl (by omega)
 obtain⟨J,hJ⟩:∃J,J=(i+1+zE zw (l.drop (i+1))):=⟨_,rfl⟩
 rw[←hJ]at hen ⊢
 have hJl:J≤l.length:=by
  have:=j5 zw (l.drop (i+1));rw[List.length_drop]at this;omega
 have hJ2:J≤2000:=by omega
 have ei:(((i+1:Nat):Nat):Int)=((i:Nat):Int)+1:=by omega
 rw[ei]at hen;have hba:=λW=>Zp l J W hl hJl
 rw[show vf (l.drop J)=false by rw[hJ];exact k3]at hba;have g1:¬((J:Nat):Int)=((i:Nat):Int)+1:=by omega
 have g2:¬(128:Int)<((J:Nat):Int)-((i:Nat):Int)-1:=by omega
 have g3:((i:Nat):Int)+1≤((J:Nat):Int):=by omega
 have g4:((J:Nat):Int)≤((bs l).size:Int):=by omega
 have hx:(bs l).extract (i+1) J=bs ((l.drop (i+1)).take (zE zw (l.drop (i+1)))):=by rw[qK,hJ,Nat.add_sub_cancel_left]
 generalize (l.drop (i+1)).take (zE zw (l.drop (i+1)))=X at hx ⊢;clear hJ k3;have HS:Hid ((bs l).size=l.length):=hsz;clear hsz;go_enter Tryz.func41,Tryz.ntmps41
 go_wp2_with (first
  |(go_at_call 72;refine(hs1 _).mono ?_;rintro e w' ⟨rfl,rfl⟩)
  |(go_at_call 73;refine(hs2 _).mono ?_;rintro e w' ⟨rfl,rfl⟩)
  |(go_at_call 74;refine(hen _).mono ?_;rintro e w' ⟨rfl,rfl⟩)
  |(go_at_call 75;refine(hba _).mono ?_;rintro e w' ⟨rfl,rfl⟩))
 exact bodyPost_ret (v:= .tuple #[.agg (vF ⟨2,X,0⟩ i),.int .i64 ((J:Nat):Int),.int .i64 0,.int .i64 (-1)]) (by simp[results,Tryz.results41,go_sem,vF]) rfl ⟨rfl,jc _⟩
theorem Kl{w:World}{l:List UInt8}{i:Nat}(hi:i<l.length)(hl:l.length≤2000)(k4:l[i]=40):
 Calls Tryz.prog 41 #[.string (bs l),.int .i64 (i:Nat)] w (yQ w i ⟨3,[40],0⟩ (i+1) 0 (-1)):=by
 have hsz:=zi l;have h1:i<(bs l).size:=by omega
 have h2:((i:Nat):Int)<((bs l).size:Int):=by omega
 have hi2:i≤2000:=by omega
 have hz2:(bs l).size≤2000:=by omega
 have k4':(bs l)[i]'h1=40:=by rw[zH];exact k4
 have k1:zP ((bs l)[i]'h1)=false:=by rw[k4'];decide
 have k2:zm ((bs l)[i]'h1)=false:=by rw[k4'];decide
 have hs1:=zZ ((bs l)[i]'h1);rw[k1]at hs1;have hs2:=zV ((bs l)[i]'h1);rw[k2]at hs2;have hv:((((bs l)[i]'h1).toNat:Nat):Int)=40:=by rw[k4'];rfl
 rw[hv]at hs1 hs2
 have hx:(bs l).extract i (i+1)=bs [40]:=by
  rw[qK,List.drop_eq_getElem_cons hi,k4,Nat.add_sub_cancel_left];rfl
 have hb1:((i:Nat):Int)+1≤((bs l).size:Int):=by omega
 clear k1 k2 k4 k4';have HS:Hid ((bs l).size=l.length):=hsz;clear hsz;go_enter Tryz.func41,Tryz.ntmps41
 go_wp2_with (first
  |(go_at_call 72;refine(hs1 _).mono ?_;rintro e w' ⟨rfl,rfl⟩)
  |(go_at_call 73;refine(hs2 _).mono ?_;rintro e w' ⟨rfl,rfl⟩))
 exact bodyPost_ret (v:= .tuple #[.agg (vF ⟨3,[40],0⟩ i),.int .i64 (((i+1):Nat):Int),.int .i64 0,.int .i64 (-1)]) (by simp[results,Tryz.results41,go_sem,vF]) rfl ⟨rfl,jc _⟩
theorem Kx{w:World}{l:List UInt8}{i:Nat}(hi:i<l.length)(hl:l.length≤2000)(k4:l[i]=41):
 Calls Tryz.prog 41 #[.string (bs l),.int .i64 (i:Nat)] w (yQ w i ⟨3,[41],0⟩ (i+1) 0 (-1)):=by
 have hsz:=zi l;have h1:i<(bs l).size:=by omega
 have h2:((i:Nat):Int)<((bs l).size:Int):=by omega
 have hi2:i≤2000:=by omega
 have hz2:(bs l).size≤2000:=by omega
 have k4':(bs l)[i]'h1=41:=by rw[zH];exact k4
 have k1:zP ((bs l)[i]'h1)=false:=by rw[k4'];decide
 have k2:zm ((bs l)[i]'h1)=false:=by rw[k4'];decide
 have hs1:=zZ ((bs l)[i]'h1);rw[k1]at hs1;have hs2:=zV ((bs l)[i]'h1);rw[k2]at hs2;have hv:((((bs l)[i]'h1).toNat:Nat):Int)=41:=by rw[k4'];rfl
 rw[hv]at hs1 hs2
 have hx:(bs l).extract i (i+1)=bs [41]:=by
  rw[qK,List.drop_eq_getElem_cons hi,k4,Nat.add_sub_cancel_left];rfl
 have hb1:((i:Nat):Int)+1≤((bs l).size:Int):=by omega
 clear k1 k2 k4 k4';have HS:Hid ((bs l).size=l.length):=hsz;clear hsz;go_enter Tryz.func41,Tryz.ntmps41
 go_wp2_with (first
  |(go_at_call 72;refine(hs1 _).mono ?_;rintro e w' ⟨rfl,rfl⟩)
  |(go_at_call 73;refine(hs2 _).mono ?_;rintro e w' ⟨rfl,rfl⟩))
 exact bodyPost_ret (v:= .tuple #[.agg (vF ⟨3,[41],0⟩ i),.int .i64 (((i+1):Nat):Int),.int .i64 0,.int .i64 (-1)]) (by simp[results,Tryz.results41,go_sem,vF]) rfl ⟨rfl,jc _⟩
theorem kr{w:World}{l:List UInt8}{i:Nat}(hi:i<l.length)(hl:l.length≤2000)(k4:l[i]=44):
 Calls Tryz.prog 41 #[.string (bs l),.int .i64 (i:Nat)] w (yQ w i ⟨3,[44],0⟩ (i+1) 0 (-1)):=by
 have hsz:=zi l;have h1:i<(bs l).size:=by omega
 have h2:((i:Nat):Int)<((bs l).size:Int):=by omega
 have hi2:i≤2000:=by omega
 have hz2:(bs l).size≤2000:=by omega
 have k4':(bs l)[i]'h1=44:=by rw[zH];exact k4
 have k1:zP ((bs l)[i]'h1)=false:=by rw[k4'];decide
 have k2:zm ((bs l)[i]'h1)=false:=by rw[k4'];decide
 have hs1:=zZ ((bs l)[i]'h1);rw[k1]at hs1;have hs2:=zV ((bs l)[i]'h1);rw[k2]at hs2;have hv:((((bs l)[i]'h1).toNat:Nat):Int)=44:=by rw[k4'];rfl
 rw[hv]at hs1 hs2
 have hx:(bs l).extract i (i+1)=bs [44]:=by
  rw[qK,List.drop_eq_getElem_cons hi,k4,Nat.add_sub_cancel_left];rfl
 have hb1:((i:Nat):Int)+1≤((bs l).size:Int):=by omega
 clear k1 k2 k4 k4';have HS:Hid ((bs l).size=l.length):=hsz;clear hsz;go_enter Tryz.func41,Tryz.ntmps41
 go_wp2_with (first
  |(go_at_call 72;refine(hs1 _).mono ?_;rintro e w' ⟨rfl,rfl⟩)
  |(go_at_call 73;refine(hs2 _).mono ?_;rintro e w' ⟨rfl,rfl⟩))
 exact bodyPost_ret (v:= .tuple #[.agg (vF ⟨3,[44],0⟩ i),.int .i64 (((i+1):Nat):Int),.int .i64 0,.int .i64 (-1)]) (by simp[results,Tryz.results41,go_sem,vF]) rfl ⟨rfl,jc _⟩
theorem KX{w:World}{l:List UInt8}{i:Nat}(hi:i<l.length)(hl:l.length≤2000)(k4:l[i]=61):
 Calls Tryz.prog 41 #[.string (bs l),.int .i64 (i:Nat)] w (yQ w i ⟨3,[61],0⟩ (i+1) 0 (-1)):=by
 have hsz:=zi l;have h1:i<(bs l).size:=by omega
 have h2:((i:Nat):Int)<((bs l).size:Int):=by omega
 have hi2:i≤2000:=by omega
 have hz2:(bs l).size≤2000:=by omega
 have k4':(bs l)[i]'h1=61:=by rw[zH];exact k4
 have k1:zP ((bs l)[i]'h1)=false:=by rw[k4'];decide
 have k2:zm ((bs l)[i]'h1)=false:=by rw[k4'];decide
 have hs1:=zZ ((bs l)[i]'h1);rw[k1]at hs1;have hs2:=zV ((bs l)[i]'h1);rw[k2]at hs2;have hv:((((bs l)[i]'h1).toNat:Nat):Int)=61:=by rw[k4'];rfl
 rw[hv]at hs1 hs2
 have hx:(bs l).extract i (i+1)=bs [61]:=by
  rw[qK,List.drop_eq_getElem_cons hi,k4,Nat.add_sub_cancel_left];rfl
 have hb1:((i:Nat):Int)+1≤((bs l).size:Int):=by omega
 clear k1 k2 k4 k4';have HS:Hid ((bs l).size=l.length):=hsz;clear hsz;go_enter Tryz.func41,Tryz.ntmps41
 go_wp2_with (first
  |(go_at_call 72;refine(hs1 _).mono ?_;rintro e w' ⟨rfl,rfl⟩)
  |(go_at_call 73;refine(hs2 _).mono ?_;rintro e w' ⟨rfl,rfl⟩))
 exact bodyPost_ret (v:= .tuple #[.agg (vF ⟨3,[61],0⟩ i),.int .i64 (((i+1):Nat):Int),.int .i64 0,.int .i64 (-1)]) (by simp[results,Tryz.results41,go_sem,vF]) rfl ⟨rfl,jc _⟩
theorem XP{w:World}{l:List UInt8}{i:Nat}(hi:i<l.length)(hl:l.length≤2000)(k4:l[i]=59):
 Calls Tryz.prog 41 #[.string (bs l),.int .i64 (i:Nat)] w (yQ w i ⟨3,[59],0⟩ (i+1) 0 (-1)):=by
 have hsz:=zi l;have h1:i<(bs l).size:=by omega
 have h2:((i:Nat):Int)<((bs l).size:Int):=by omega
 have hi2:i≤2000:=by omega
 have hz2:(bs l).size≤2000:=by omega
 have k4':(bs l)[i]'h1=59:=by rw[zH];exact k4
 have k1:zP ((bs l)[i]'h1)=false:=by rw[k4'];decide
 have k2:zm ((bs l)[i]'h1)=false:=by rw[k4'];decide
 have hs1:=zZ ((bs l)[i]'h1);rw[k1]at hs1;have hs2:=zV ((bs l)[i]'h1);rw[k2]at hs2;have hv:((((bs l)[i]'h1).toNat:Nat):Int)=59:=by rw[k4'];rfl
 rw[hv]at hs1 hs2
 have hx:(bs l).extract i (i+1)=bs [59]:=by
  rw[qK,List.drop_eq_getElem_cons hi,k4,Nat.add_sub_cancel_left];rfl
 have hb1:((i:Nat):Int)+1≤((bs l).size:Int):=by omega
 clear k1 k2 k4 k4';have HS:Hid ((bs l).size=l.length):=hsz;clear hsz;go_enter Tryz.func41,Tryz.ntmps41
 go_wp2_with (first
  |(go_at_call 72;refine(hs1 _).mono ?_;rintro e w' ⟨rfl,rfl⟩)
  |(go_at_call 73;refine(hs2 _).mono ?_;rintro e w' ⟨rfl,rfl⟩))
 exact bodyPost_ret (v:= .tuple #[.agg (vF ⟨3,[59],0⟩ i),.int .i64 (((i+1):Nat):Int),.int .i64 0,.int .i64 (-1)]) (by simp[results,Tryz.results41,go_sem,vF]) rfl ⟨rfl,jc _⟩
theorem gF{w:World}{l:List UInt8}{i:Nat}(hi:i<l.length)(hl:l.length≤2000)(k1:zP l[i]=false)(k2:zm l[i]=false)(d1:l[i]≠36)(d2:l[i]≠40)(d3:l[i]≠41)(d4:l[i]≠44)(d5:l[i]≠61)(d6:l[i]≠59):
 Calls Tryz.prog 41 #[.string (bs l),.int .i64 (i:Nat)] w (yQ w i ⟨0,[],0⟩ i 101 (i:Nat)):=by
 have hsz:=zi l;have h1:i<(bs l).size:=by omega
 have h2:((i:Nat):Int)<((bs l).size:Int):=by omega
 have hi2:i≤2000:=by omega
 have hz2:(bs l).size≤2000:=by omega
 have hc1:zP ((bs l)[i]'h1)=false:=by rw[zH];exact k1
 have hs1:=zZ ((bs l)[i]'h1);rw[hc1]at hs1;clear hc1 k1;have hc2:zm ((bs l)[i]'h1)=false:=by rw[zH];exact k2
 have hs2:=zV ((bs l)[i]'h1);rw[hc2]at hs2;clear hc2 k2
 have hv:∀k:Nat,k<256→l[i]≠UInt8.ofNat k→(((((bs l)[i]'h1).toNat:Nat):Int)==(k:Int))=false:=by
  intro k hk hne;rw[←Bool.not_eq_true];intro e;apply hne;have e:=eq_of_beq e;rw[zH]at e;exact Uz (by omega)
 have v1:(((((bs l)[i]'h1).toNat:Nat):Int)==36)=false:=hv 36 (by decide) d1;have v2:(((((bs l)[i]'h1).toNat:Nat):Int)==40)=false:=hv 40 (by decide) d2;have v3:(((((bs l)[i]'h1).toNat:Nat):Int)==41)=false:=hv 41 (by decide) d3;have v4:(((((bs l)[i]'h1).toNat:Nat):Int)==44)=false:=hv 44 (by decide) d4;have v5:(((((bs l)[i]'h1).toNat:Nat):Int)==61)=false:=hv 61 (by decide) d5;have v6:(((((bs l)[i]'h1).toNat:Nat):Int)==59)=false:=hv 59 (by decide) d6;have u1:¬((((bs l)[i]'h1).toNat:Nat):Int)=36:=by simpa using v1
 have u2:¬((((bs l)[i]'h1).toNat:Nat):Int)=40:=by simpa using v2
 have u3:¬((((bs l)[i]'h1).toNat:Nat):Int)=41:=by simpa using v3
 have u4:¬((((bs l)[i]'h1).toNat:Nat):Int)=44:=by simpa using v4
 have u5:¬((((bs l)[i]'h1).toNat:Nat):Int)=61:=by simpa using v5
 have u6:¬((((bs l)[i]'h1).toNat:Nat):Int)=59:=by simpa using v6
 clear hv;have HS:Hid ((bs l).size=l.length):=hsz;clear hsz;go_enter Tryz.func41,Tryz.ntmps41
 go_wp2_with (first
  |(go_at_call 72;refine(hs1 _).mono ?_;rintro e w' ⟨rfl,rfl⟩)
  |(go_at_call 73;refine(hs2 _).mono ?_;rintro e w' ⟨rfl,rfl⟩))
 exact bodyPost_ret (v:= .tuple #[.agg (vF ⟨0,[],0⟩ i),.int .i64 ((i:Nat):Int),.int .i64 101,.int .i64 (i:Nat)]) (by simp[results,Tryz.results41,go_sem,vF,xD]) rfl ⟨rfl,jc _⟩
theorem FF{l:List UInt8}{p j:Nat}(hj:j<zE zm (l.drop p)):∃h:p+j<l.length,zm (l[p+j])=true:=by
 have hl:=j5 zm (l.drop p);rw[List.length_drop]at hl;have h:p+j<l.length:=by omega
 exact⟨h,(xp (by omega) h).1 hj⟩
theorem gr{l:List UInt8}{p j:Nat}(h:p+j<l.length):val ((l.drop p).take (j+1))=10*val ((l.drop p).take j)+(l[p+j].toNat-48):=by
 have h2:j<(l.drop p).length:=by rw[List.length_drop];omega
 rw[List.take_succ_eq_append_getElem h2,QA];simp
theorem dL{l:List UInt8}{p j:Nat}(hj:j≤zE zm (l.drop p))(h9:¬9<zE zm (l.drop p)):val ((l.drop p).take j)<1000000000:=by
 have h1:=QY ((l.drop p).take j) (λc hc=>QC (p:=zm) (x:=l.drop p) c (by
  have :(l.drop p).take j=((l.drop p).take (zE zm (l.drop p))).take j:=by rw[List.take_take,Nat.min_eq_left hj]
  rw[this]at hc
  exact List.mem_of_mem_take hc))
 have h2:10 ^ ((l.drop p).take j).length≤10 ^ 9:=Nat.pow_le_pow_right (by decide) (by rw[List.length_take];omega);exact Nat.lt_of_lt_of_le h1 h2
structure YU (w wr:World) (V i:Nat):Prop where
 tok:ze wr (w.heap.size+1) 100 #[.int .i64 1,.string ⟨#[]⟩,.int .i64 (V:Nat),.int .i64 (i:Nat)]
 res:ze wr w.heap.size 100 #[.int .i64 0,.string ⟨#[]⟩,.int .i64 0,.int .i64 0]
 below:Below w.heap.size w wr
theorem YU.step{w wr:World}{V i:Nat}(h:YU w wr V i){V':Nat}{z:Int}(hz:z=(V':Nat)):YU w (wr.setCell ⟨w.heap.size+1,2,none⟩ (.int .i64 z)) V' i:=by
 subst hz;have h':wr.heap[w.heap.size+1]?=some (.cells #[.int .i64 1,.string ⟨#[]⟩,.int .i64 (V:Nat),.int .i64 (i:Nat)] 100 (0,0)):=h.tok;refine⟨?_,h.res.other (show w.heap.size≠w.heap.size+1 by omega) _,h.below.setCell (p:=⟨w.heap.size+1,2,none⟩) (by simp) _⟩;show(wr.setCell ⟨w.heap.size+1,2,none⟩ (.int .i64 (V':Nat))).heap[w.heap.size+1]?=_;simp[World.setCell,Array.getElem?_modify,h']
theorem YU.drew{w wr:World}{V i:Nat}(h:YU w wr V i):YU w wr.drew V i:=⟨h.tok,h.res,⟨h.below.os,h.below.tape,h.below.output,h.below.size,h.below.block⟩⟩
theorem YU.last{w wr:World}{V i:Nat}(h:YU w wr V i){v0 v1 v2 v3:Value}:Below w.heap.size w ((((wr.setCell ⟨w.heap.size,0,none⟩ v0).setCell ⟨w.heap.size,1,none⟩ v1).setCell ⟨w.heap.size,2,none⟩ v2).setCell ⟨w.heap.size,3,none⟩ v3):=
 (((h.below.setCell (p:=⟨w.heap.size,0,none⟩) (Nat.le_refl _) v0).setCell (p:=⟨w.heap.size,1,none⟩) (Nat.le_refl _) v1).setCell (p:=⟨w.heap.size,2,none⟩) (Nat.le_refl _) v2).setCell (p:=⟨w.heap.size,3,none⟩) (Nat.le_refl _) v3
theorem ft{w:World}{l:List UInt8}{i:Nat}(hi:i<l.length)(hl:l.length≤2000)(k1:zP l[i]=false)(k2:zm l[i]=true)(h:¬9<zE zm (l.drop i))(k3:vf (l.drop (i+zE zm (l.drop i)))=false):
 Calls Tryz.prog 41 #[.string (bs l),.int .i64 (i:Nat)] w (yQ w i ⟨1,[],val ((l.drop i).take (zE zm (l.drop i)))⟩ (i+zE zm (l.drop i)) 0 (-1)):=by
 have hsz:=zi l;have h1:i<(bs l).size:=by omega
 have h2:((i:Nat):Int)<((bs l).size:Int):=by omega
 have hi2:i≤2000:=by omega
 have hz2:(bs l).size≤2000:=by omega
 have hc1:zP ((bs l)[i]'h1)=false:=by rw[zH];exact k1
 have hs1:=zZ ((bs l)[i]'h1);rw[hc1]at hs1;have hc2:zm ((bs l)[i]'h1)=true:=by rw[zH];exact k2
 have hs2:=zV ((bs l)[i]'h1);rw[hc2]at hs2;have hen:=λW=>ZI l i W hl (by omega)
 have hfg:∀j,j<zE zm (l.drop i)→∃h:i+j<l.length,zm (l[i+j])=true:=λj hj=>FF hj
 have hvl:∀j,j≤zE zm (l.drop i)→val ((l.drop i).take j)<1000000000:=λj hj=>dL hj h
 obtain⟨n,hn⟩:∃n,n=zE zm (l.drop i):=⟨_,rfl⟩
 rw[←hn]at hen hfg hvl h k3 ⊢
 obtain⟨J,hJ⟩:∃J,J=i+n:=⟨_,rfl⟩
 have hJl:J≤l.length:=by
  have:=j5 zm (l.drop i);rw[List.length_drop]at this;omega
 rw[←hJ]at hen ⊢;have hJ2:J≤2000:=by omega
 have hba:=λW=>Zp l J W hl hJl
 rw[show vf (l.drop J)=false by rw[hJ];exact k3]at hba;have g1:¬(9:Int)<((J:Nat):Int)-((i:Nat):Int):=by omega
 have HS:Hid ((bs l).size=l.length):=hsz;have HJ:Hid (J=i+n):=hJ;clear hsz hc1 hc2 k1 k2 k3 hn hJ;go_enter Tryz.func41,Tryz.ntmps41
 go_wp2_with (first
  |(go_at_call 72;refine(hs1 _).mono ?_;rintro e w' ⟨rfl,rfl⟩)
  |(go_at_call 73;refine(hs2 _).mono ?_;rintro e w' ⟨rfl,rfl⟩)
  |(go_at_call 74;refine(hen _).mono ?_;rintro e w' ⟨rfl,rfl⟩)
  |(go_at_call 75;refine(hba _).mono ?_;rintro e w' ⟨rfl,rfl⟩))
 go_loopw [15] (λz wr=>∃k:Nat,k≤n∧z= .int .i64 ((i+k:Nat):Int)∧YU w wr (val ((l.drop i).take k)) i) (λz _=>2000-(intOf z).toNat)
 case atStart=>exact⟨0,Nat.zero_le _,rfl,ze.new_at (by simp),(ze.new_at rfl).alloc _,jc _⟩
 case round =>
  obtain⟨k,hk,rfl,hN⟩:=hrel;have hv9:=hvl k hk
  obtain⟨P,hP⟩:∃P,P=i+k:=⟨_,rfl⟩
  rw[←hP];have HP:Hid (P=i+k):=hP;have hP2:P≤2000:=by have:=HJ.out;omega
  clear hP;by_cases hlt:k<n
  ·obtain⟨x1,x2⟩:=hfg k hlt
   have a1:P<(bs l).size:=by rw[HS.out,HP.out];exact x1
   have a2:((P:Nat):Int)<((bs l).size:Int):=by omega
   have a3:((P:Nat):Int)<((J:Nat):Int):=by have h8:=HP.out;have h9:=HJ.out;omega
   have y3:(bs l)[P]'a1=l[i+k]:=by rw[zH];simp only[HP.out]
   rw[J5,Bool.and_eq_true,decide_eq_true_eq,decide_eq_true_eq]at x2;have x3:48≤((((bs l)[P]'a1).toNat:Nat):Int)∧((((bs l)[P]'a1).toNat:Nat):Int)≤57:=by rw[y3];exact x2
   have hvn:=gr x1
   have HVN:Hid (((val ((l.drop i).take (k+1)):Nat):Int)=10*((val ((l.drop i).take k):Nat):Int)+(((((bs l)[P]'a1).toNat:Nat):Int)-48)):=by
    show _=_;rw[hvn,y3];omega
   have hstep:=λz hz=>hN.step (V':=val ((l.drop i).take (k+1))) (z:=z) hz
   generalize val ((l.drop i).take k)=V at hv9 HVN hN hstep;have c2:wr.cell? ⟨w.heap.size+1,2,none⟩=some (.int .i64 (V:Nat)):=hN.tok.cell 2;have f2:=hN.tok.free 2;obtain⟨x4,x5⟩:=x3;clear hvn y3 x2 hfg hvl
   go_wp2
   go_region
   all_goals
    go_wp2
    go_roundw
    case rel=>exact⟨k+1,by omega,by have:=HP.out;go_num,(hstep _ HVN.out.symm).drew⟩
    case measure=>simp[intOf];omega
  ·have hkn:k=n:=by omega
   subst hkn;have a3:¬((P:Nat):Int)<((J:Nat):Int):=by have h8:=HP.out;have h9:=HJ.out;omega
   obtain⟨V,hV⟩:∃V,V=val ((l.drop i).take k):=⟨_,rfl⟩
   rw[←hV]at hv9 hN;have HV:Hid (V=val ((l.drop i).take k)):=hV;clear hV;have c0:wr.cell? ⟨w.heap.size+1,0,none⟩=some (.int .i64 1):=hN.tok.cell 0;have c1:wr.cell? ⟨w.heap.size+1,1,none⟩=some (.string ⟨#[]⟩):=hN.tok.cell 1;have c2:wr.cell? ⟨w.heap.size+1,2,none⟩=some (.int .i64 (V:Nat)):=hN.tok.cell 2;have c3:wr.cell? ⟨w.heap.size+1,3,none⟩=some (.int .i64 (i:Nat)):=hN.tok.cell 3;have r0:wr.cell? ⟨w.heap.size,0,none⟩=some (.int .i64 0):=hN.res.cell 0;have r1:wr.cell? ⟨w.heap.size,1,none⟩=some (.string ⟨#[]⟩):=hN.res.cell 1;have r2:wr.cell? ⟨w.heap.size,2,none⟩=some (.int .i64 0):=hN.res.cell 2;have r3:wr.cell? ⟨w.heap.size,3,none⟩=some (.int .i64 0):=hN.res.cell 3;have f0:=hN.res.free 0;have f1:=hN.res.free 1;have f2:=hN.res.free 2;have f3:=hN.res.free 3;clear hfg hvl
   go_wp2
   exact bodyPost_ret (v:= .tuple #[.agg (vF ⟨1,[],V⟩ i),.int .i64 ((J:Nat):Int),.int .i64 0,.int .i64 (-1)]) (by simp[results,Tryz.results41,go_sem,vF,xD,r0,r1,r2,r3]) rfl ⟨by rw[HV.out],hN.last⟩
theorem Hf{w:World}{l:List UInt8}{i n:Nat}{t:Tk}(hi:i<l.length)(hl:l.length≤2000)(h:one (l.drop i)= .ok (t,n)):
 Calls Tryz.prog 41 #[.string (bs l),.int .i64 (i:Nat)] w (yQ w i t (i+n) 0 (-1)):=by
 rw[YK hi]at h
 split at h
 ·rename_i k1
  split at h
  ·cases h
  ·rename_i hn
   cases h;exact GG hi hl k1 hn
 ·rename_i k1
  have k1:zP l[i]=false:=by simpa using k1
  split at h
  ·rename_i k2
   split at h
   ·cases h
   ·rename_i hn
    split at h
    ·cases h
    ·rename_i hla
     cases h;exact ft hi hl k1 k2 hn (by simpa using hla)
  ·rename_i k2
   split at h
   ·rename_i k4
    have k4:=eq_of_beq k4
    split at h
    ·cases h
    ·rename_i h0
     split at h
     ·cases h
     ·rename_i hn
      split at h
      ·cases h
      ·rename_i hla
       cases h;rw[show i+(zE zw (l.drop (i+1))+1)=i+1+zE zw (l.drop (i+1)) by omega];exact fj hi hl k4 h0 hn (by simpa using hla)
   ·split at h
    ·rename_i k5
     cases h;rcases YA k5 with e|e|e|e|e
     ·rw[e];exact Kl hi hl e
     ·rw[e];exact Kx hi hl e
     ·rw[e];exact kr hi hl e
     ·rw[e];exact KX hi hl e
     ·rw[e];exact XP hi hl e
    ·cases h
def hU(w:World)(i er o:Nat)(e:Ending)(w':World):Prop:=∃t E,yQ w i t E (er:Nat) ((i+o:Nat):Int) e w'
theorem fR{w:World}{l:List UInt8}{i er o:Nat}(hi:i<l.length)(hl:l.length≤2000)(h:one (l.drop i)= .error (er,o)):
 Calls Tryz.prog 41 #[.string (bs l),.int .i64 (i:Nat)] w (hU w i er o):=by
 rw[YK hi]at h
 split at h
 ·rename_i k1
  split at h
  ·rename_i hn
   cases h;exact(ug hi hl k1 hn).mono λe w' hr=>⟨_,_,hr⟩
  ·cases h
 ·rename_i k1
  have k1:zP l[i]=false:=by simpa using k1
  split at h
  ·rename_i k2
   split at h
   ·rename_i hn
    cases h;exact(gv hi hl k1 k2 hn).mono λe w' hr=>⟨_,_,hr⟩
   ·rename_i hn
    split at h
    ·rename_i hla
     cases h;exact(GT hi hl k1 k2 hn hla).mono λe w' hr=>⟨_,_,hr⟩
    ·cases h
  ·rename_i k2
   have k2:zm l[i]=false:=by simpa using k2
   split at h
   ·rename_i k4
    have k4:=eq_of_beq k4
    split at h
    ·rename_i h0
     cases h;exact(gd hi hl k4 h0).mono λe w' hr=>⟨_,_,hr⟩
    ·rename_i h0
     split at h
     ·rename_i hn
      cases h;exact(GJ hi hl k4 hn).mono λe w' hr=>⟨_,_,hr⟩
     ·rename_i hn
      split at h
      ·rename_i hla
       cases h;rw[show zE zw (l.drop (i+1))+1=1+zE zw (l.drop (i+1)) by omega];have hb:=Gm (w:=w) hi hl k4 h0 hn hla;rw[show i+1+zE zw (l.drop (i+1))=i+(1+zE zw (l.drop (i+1))) by omega]at hb;exact hb.mono λe w' hr=>⟨_,_,hr⟩
      ·cases h
   ·rename_i d1
    split at h
    ·cases h
    ·rename_i d2
     cases h;simp[xX]at d2;exact(gF hi hl k1 k2 (by simpa using d1) d2.1.1.1.1 d2.1.1.1.2 d2.1.1.2 d2.1.2 d2.2).mono λe w' hr=>⟨_,_,hr⟩
def ya:Nat→List UInt8→Nat→Nat→Except (Nat×Nat) zo
 |0,_,_,_=> .ok []
 |f+1,x,a,k =>
  if x.drop (qJ false x)= []then .ok []else
  if k=500 then .error (103,a+qJ false x)else
  match one (x.drop (qJ false x))with
  | .error (e,o)=> .error (e,a+qJ false x+o)
  | .ok (t,n)=>xA [(t,a+qJ false x)] (ya f (x.drop (qJ false x+n)) (a+qJ false x+n) (k+1))
def jr(l:List UInt8):Except (Nat×Nat) zo:=if 2000<l.length then .error (103,0)else ya (l.length+1) l 0 0
theorem Ft(f:Nat):∀(x:List UInt8) (a k:Nat) (ts:zo),ya f x a k= .ok ts↔ym f x a k= .ok ts:=by
 induction f with
 |zero=>intro x a k ts;exact Iff.rfl
 |succ f ih =>
  intro x a k ts;by_cases hne:x.drop (qJ false x)= []
  ·rw[yg hne,ya,if_pos hne]
  ·rw[ya,if_neg hne]
   by_cases h5:k=500
   ·subst h5
    rw[if_pos rfl];cases hr:one (x.drop (qJ false x))with
    |error e=>obtain⟨e,o⟩:=e;rw[yL hne hr];constructor<;>intro h<;>cases h
    |ok r=>obtain⟨t,n⟩:=r;rw[yE hne hr]
   ·rw[if_neg h5]
    cases hr:one (x.drop (qJ false x))with
    |error e=>obtain⟨e,o⟩:=e;rw[yL hne hr]
    |ok r =>
     obtain⟨t,n⟩:=r;rw[vC hne hr h5];have hi:=ih (x.drop (qJ false x+n)) (a+qJ false x+n) (k+1);simp only;generalize ya f (x.drop (qJ false x+n)) (a+qJ false x+n) (k+1)=A at hi ⊢;generalize ym f (x.drop (qJ false x+n)) (a+qJ false x+n) (k+1)=C at hi ⊢;cases A with
     |ok us=>rw[(hi us).1 rfl]
     |error e =>
      cases C with
      |ok us=>have:=(hi us).2 rfl;cases this
      |error e'=>constructor<;>intro h<;>cases h
theorem Vi(l:List UInt8)(ts:zo):jr l= .ok ts↔j9 l= .ok ts:=by
 unfold jr j9
 split
 ·constructor<;>intro h<;>cases h
 ·exact Ft _ _ _ _ _
theorem GR{f:Nat}{x:List UInt8}{a k:Nat}(h:x.drop (qJ false x)= []):ya (f+1) x a k= .ok []:=by rw[ya,if_pos h]
theorem kR{f:Nat}{x:List UInt8}{a:Nat}(h:x.drop (qJ false x)≠ []):ya (f+1) x a 500= .error (103,a+qJ false x):=by rw[ya,if_neg h,if_pos rfl]
theorem Gu{f:Nat}{x:List UInt8}{a k e o:Nat}(h:x.drop (qJ false x)≠ [])(hk:k≠500)(ho:one (x.drop (qJ false x))= .error (e,o)):ya (f+1) x a k= .error (e,a+qJ false x+o):=by simp only[ya,if_neg h,if_neg hk,ho]
theorem UZ{f:Nat}{x:List UInt8}{a k:Nat}{t:Tk}{n:Nat}(h:x.drop (qJ false x)≠ [])(hk:k≠500)(ho:one (x.drop (qJ false x))= .ok (t,n)):
 ya (f+1) x a k=xA [(t,a+qJ false x)] (ya f (x.drop (qJ false x+n)) (a+qJ false x+n) (k+1)):=by simp only[ya,if_neg h,if_neg hk,ho]
def d9(w wr:World)(l:List UInt8)(v:Value)(i:Nat)(ts:zo):Prop:=i≤l.length∧Below w.heap.size w wr∧jE wr w.heap.size v ts∧ts.length≤500∧∃f,l.length-i≤f∧jr l=xA ts (ya (f+1) (l.drop i) i ts.length)
theorem Ug(w:World)(l:List UInt8)(h:2000<l.length)(hm:l.length≤maxLen):Calls Tryz.prog 21 #[.string (bs l)] w (Ye w (jr l)):=by
 unfold maxLen at hm;have hsz:=zi l;have h1:(2000:Int)<((bs l).size:Int):=by omega
 have HR:Hid (jr l= .error (103,0)):=by show jr l=_;unfold jr;rw[if_pos h]
 clear hsz;go_enter Tryz.func21,Tryz.ntmps21
 go_wp2
 go_ret3
 exact⟨Below.refl _ _,by rw[HR.out];rfl⟩
theorem dP(w:World)(l:List UInt8)(h:¬2000<l.length):Calls Tryz.prog 21 #[.string (bs l)] w (Ye w (jr l)):=by
 have hl:l.length≤2000:=by omega
 have hsz:=zi l;have h1:¬(2000:Int)<((bs l).size:Int):=by omega
 have HS:Hid ((bs l).size=l.length):=hsz;have hp:=λW=>uC l 0 W hl (Nat.zero_le _)
 clear hsz;simp only[Nat.zero_add]at hp;go_enter Tryz.func21,Tryz.ntmps21
 go_wp2_with (go_at_call 40;refine(hp _).mono ?_;rintro e w1 ⟨rfl,hw1⟩;obtain rfl:w=w1:=hw1.symm)
 go_loopw [5,6] (λv z wr=>∃(i:Nat) (ts:zo),d9 w wr l v i ts∧z= .int .i64 ((i+qJ false (l.drop i):Nat):Int)) (λ_ z _=>2000-(intOf z).toNat)
 case atStart=>exact⟨0,[],⟨Nat.zero_le _,Below.refl _ _,jE.empty _ _,by simp,l.length,by omega,by rw[Yc];unfold jr;rw[if_neg h];rfl⟩,by simp⟩
 case round =>
  clear hp;obtain⟨i,ts,hA,rfl⟩:=hrel;have hle:=VC false (l.drop i);rw[List.length_drop]at hle;obtain⟨hi,hbw,hrow,h500,f,hf,heq⟩:=hA;obtain⟨A,C,rfl⟩:=QV hrow
  obtain⟨J,hJ⟩:∃J,J=i+qJ false (l.drop i):=⟨_,rfl⟩
  have hJ2:J≤2000:=by omega
  have HJ:Hid (J=i+qJ false (l.drop i)):=hJ;rw[←hJ]
  obtain⟨M,hM⟩:∃M,M=ts.length:=⟨_,rfl⟩
  have HM:Hid (M=ts.length):=hM;rw[←hM]at h500 hrow heq ⊢;have hM2:M≤500:=h500;clear hM h500 hle;have hdd:(l.drop i).drop (qJ false (l.drop i))=l.drop J:=by rw[List.drop_drop,←hJ]
  by_cases hlt:J<l.length
  ·have h2:((J:Nat):Int)<((bs l).size:Int):=by rw[HS.out];omega
   have hne:(l.drop i).drop (qJ false (l.drop i))≠ []:=by
    rw[hdd];intro e;have:=congrArg List.length e;simp at this;omega
   by_cases h5:M=500
   ·subst h5
    rw[kR hne,←hJ]at heq;have HB:Hid (jr l= .error (103,J)):=heq;clear heq hne hdd hJ
    go_wp2
    go_ret3
    exact⟨hbw,by rw[HB.out];rfl⟩
   ·have h5':¬((M:Nat):Int)=500:=by omega
    cases ho:one (l.drop J)with
    |error r =>
     obtain⟨er,o⟩:=r;rw[Gu hne h5 (by rw[hdd];exact ho),←hJ]at heq;have HB:Hid (jr l= .error (er,J+o)):=heq;have ht:=λW=>fR (w:=W) hlt hl ho
     have her:¬((er:Nat):Int)=0:=by rcases Xq ho with e|⟨e,_⟩<;>omega
     obtain⟨Z,hZ⟩:∃Z,Z=J+o:=⟨_,rfl⟩
     unfold hU at ht;rw[←hZ]at ht;have HZ:Hid (Z=J+o):=hZ;clear heq hne hdd hJ ho hZ
     go_wp2_with (go_at_call 41;refine(ht _).mono ?_;rintro e w2 ⟨t,E,rfl,hb2⟩;simp only[vF])
     go_ret3
     exact⟨JM hbw hb2 _,by rw[HB.out,←HZ.out];rfl⟩
    |ok r =>
     obtain⟨t,n⟩:=r;have hn:=yV ho;rw[List.length_drop]at hn;rw[UZ hne h5 (by rw[hdd];exact ho),←hJ,Jp,List.drop_drop,show i+(qJ false (l.drop i)+n)=J+n by omega]at heq;have ht:=λW=>Hf (w:=W) hlt hl ho
     have hp:=λW=>uC l (J+n) W hl (by omega)
     obtain⟨E,hE⟩:∃E,E=J+n:=⟨_,rfl⟩
     rw[←hE]at hp ht heq;have hE1:J<E:=by omega
     have hE2:E≤2000:=by omega
     have hEl:E≤l.length:=by omega
     have HQ:Hid (jr l=xA (ts++ [(t,J)]) (ya f (l.drop E) E (M+1))):=heq;clear heq hne hdd hJ ho hE
     go_wp2_with (first
      |(go_at_call 41;refine(ht _).mono ?_;rintro e w2 ⟨rfl,hb2⟩;simp only[vF])
      |(go_at_call 40;refine(hp _).mono ?_;rintro e w4 ⟨rfl,hw4⟩;obtain rfl:w3=w4:=hw4.symm)
      |(refine zf 39 rfl ?_
        refine xC rfl _ _ rfl w.heap.size _ ts rfl (((hrow.below hb2).below ((Below.refl _ _).alloc (Nat.le_refl _) _)).below ((Below.refl _ _).alloc (Nat.le_refl _) _)) (w2.heap.size+1) t J rfl (ze.new_at (by simp)) (by rw[←HM.out];exact hM2) (by have:=hbw.size;have:=hb2.size;simp;omega) ?_
        intro v' w3 hr3 hb3))
     go_roundw
     case rel =>
      have hJi:i≤J:=by have:=HJ.out;omega
      refine⟨E,ts++ [(t,J)],⟨hEl,uH hbw hb2 hb3 (Below.refl _ _),hr3,by rw[List.length_append,←HM.out];simp;omega,f-1,by omega,?_⟩,rfl⟩;rw[HQ.out,List.length_append,←HM.out,show f-1+1=f by omega];rfl
     case measure=>simp[intOf];omega
  ·have h2:¬((J:Nat):Int)<((bs l).size:Int):=by rw[HS.out];omega
   rw[GR (by rw[hdd];exact List.drop_eq_nil_of_le (by omega))]at heq;have HB:Hid (jr l= .ok ts):=by show jr l=_;rw[heq];simp[xA]
   clear heq hJ hdd
   go_wp2
   go_ret3
   exact⟨hbw,by rw[HB.out];exact⟨_,rfl,hrow⟩⟩
end
end Go.Proofs.YtebcfkigbbolaaaGreatDoor
