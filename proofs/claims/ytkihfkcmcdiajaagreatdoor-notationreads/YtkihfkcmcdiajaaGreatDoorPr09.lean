/- DERIVED. Plain mathematics and walks, laid together (9). -/
import Derived.Deep.RegionLaw
import Derived.Laws.Bits64
import Derived.Test.YtkihfkcmcdiajaaGreatDoorPr08
set_option maxRecDepth 100000
set_option maxHeartbeats 8000000
namespace Go.Proofs.YtkihfkcmcdiajaaGreatDoor
open Go.RowKit
theorem zon (w:World) :
  Calls Tryz.prog 153 #[.int .u8 97] w (rB w (.tuple #[sv (spn 65 90 ||| spn 97 122),.int .i64 0])):=by
 have HH:=hO (Holds.zero w);have HR:=hO (zaM w z4);have HQ:Hid (Below (w.heap.size+1) (w.alloc z4) (w.alloc z4)):=bR _ _;go_enter Tryz.func153,Tryz.ntmps153;go_wp2_with fail;refine (zep _).mono ?_;rintro e w1 ⟨rfl,hb⟩
 replace HQ:=(show Hid _ from HQ.trans (hb.mono (by first | exact HQ.size | (have h:=HQ.size;simp at h;omega) | simp)))
 have HR1:=hO (HR.trans (HQ.mono (by omega)));obtain ⟨l0,c0,c1,c2,c3,f0,f1,f2,f3⟩:=HH.below HQ (by omega);generalize hr:spn 65 90 ||| spn 97 122=r;have Hr:=hO hr;clear hr;go_wp2
 exact bodyPost_ret (v:=.tuple #[sv r,.int .i64 0]) (by simp [results,Tryz.results153,go_sem, *]) rfl ⟨by rw [Hr.out],(((HR1.setCell (by simp) _).setCell (by simp) _).setCell (by simp) _).setCell (by simp) _⟩
theorem zoo (w:World) :
  Calls Tryz.prog 153 #[.int .u8 99] w (rB w (.tuple #[sv (spn 0 31 ||| bt 127),.int .i64 0])):=by
 have HH:=hO (Holds.zero w);have HR:=hO (zaM w z4);have HQ:Hid (Below (w.heap.size+1) (w.alloc z4) (w.alloc z4)):=bR _ _;go_enter Tryz.func153,Tryz.ntmps153;go_wp2_with fail;refine (zaE 0 31 _ (by omega) (by omega) (by omega)).mono ?_;rintro e w1 ⟨rfl,hb⟩
 replace HQ:=(show Hid _ from HQ.trans (hb.mono (by first | exact HQ.size | (have h:=HQ.size;simp at h;omega) | simp)))
 go_wp2_with fail;refine (zfn _ 127 _ (by omega) (by omega)).mono ?_;rintro e w1 ⟨rfl,hb⟩
 replace HQ:=(show Hid _ from HQ.trans (hb.mono (by first | exact HQ.size | (have h:=HQ.size;simp at h;omega) | simp)))
 rw [show (127:Int).toNat=127 from rfl];have HR1:=hO (HR.trans (HQ.mono (by omega)));obtain ⟨l0,c0,c1,c2,c3,f0,f1,f2,f3⟩:=HH.below HQ (by omega);generalize hr:spn 0 31 ||| bt 127=r;have Hr:=hO hr;clear hr;go_wp2
 exact bodyPost_ret (v:=.tuple #[sv r,.int .i64 0]) (by simp [results,Tryz.results153,go_sem, *]) rfl ⟨by rw [Hr.out],(((HR1.setCell (by simp) _).setCell (by simp) _).setCell (by simp) _).setCell (by simp) _⟩
theorem zlP (w:World) :
  Calls Tryz.prog 153 #[.int .u8 100] w (rB w (.tuple #[sv (spn 48 57),.int .i64 0])):=by
 have HH:=hO (Holds.zero w);have HR:=hO (zaM w z4);have HQ:Hid (Below (w.heap.size+1) (w.alloc z4) (w.alloc z4)):=bR _ _;go_enter Tryz.func153,Tryz.ntmps153;go_wp2_with fail;refine (zaE 48 57 _ (by omega) (by omega) (by omega)).mono ?_;rintro e w1 ⟨rfl,hb⟩
 replace HQ:=(show Hid _ from HQ.trans (hb.mono (by first | exact HQ.size | (have h:=HQ.size;simp at h;omega) | simp)))
 have HR1:=hO (HR.trans (HQ.mono (by omega)));obtain ⟨l0,c0,c1,c2,c3,f0,f1,f2,f3⟩:=HH.below HQ (by omega);generalize hr:spn 48 57=r;have Hr:=hO hr;clear hr;go_wp2
 exact bodyPost_ret (v:=.tuple #[sv r,.int .i64 0]) (by simp [results,Tryz.results153,go_sem, *]) rfl ⟨by rw [Hr.out],(((HR1.setCell (by simp) _).setCell (by simp) _).setCell (by simp) _).setCell (by simp) _⟩
theorem zlQ (w:World) :
  Calls Tryz.prog 153 #[.int .u8 103] w (rB w (.tuple #[sv (spn 33 126),.int .i64 0])):=by
 have HH:=hO (Holds.zero w);have HR:=hO (zaM w z4);have HQ:Hid (Below (w.heap.size+1) (w.alloc z4) (w.alloc z4)):=bR _ _;go_enter Tryz.func153,Tryz.ntmps153;go_wp2_with fail;refine (zaE 33 126 _ (by omega) (by omega) (by omega)).mono ?_;rintro e w1 ⟨rfl,hb⟩
 replace HQ:=(show Hid _ from HQ.trans (hb.mono (by first | exact HQ.size | (have h:=HQ.size;simp at h;omega) | simp)))
 have HR1:=hO (HR.trans (HQ.mono (by omega)));obtain ⟨l0,c0,c1,c2,c3,f0,f1,f2,f3⟩:=HH.below HQ (by omega);generalize hr:spn 33 126=r;have Hr:=hO hr;clear hr;go_wp2
 exact bodyPost_ret (v:=.tuple #[sv r,.int .i64 0]) (by simp [results,Tryz.results153,go_sem, *]) rfl ⟨by rw [Hr.out],(((HR1.setCell (by simp) _).setCell (by simp) _).setCell (by simp) _).setCell (by simp) _⟩
theorem zlR (w:World) :
  Calls Tryz.prog 153 #[.int .u8 108] w (rB w (.tuple #[sv (spn 97 122),.int .i64 0])):=by
 have HH:=hO (Holds.zero w);have HR:=hO (zaM w z4);have HQ:Hid (Below (w.heap.size+1) (w.alloc z4) (w.alloc z4)):=bR _ _;go_enter Tryz.func153,Tryz.ntmps153;go_wp2_with fail;refine (zaE 97 122 _ (by omega) (by omega) (by omega)).mono ?_;rintro e w1 ⟨rfl,hb⟩
 replace HQ:=(show Hid _ from HQ.trans (hb.mono (by first | exact HQ.size | (have h:=HQ.size;simp at h;omega) | simp)))
 have HR1:=hO (HR.trans (HQ.mono (by omega)));obtain ⟨l0,c0,c1,c2,c3,f0,f1,f2,f3⟩:=HH.below HQ (by omega);generalize hr:spn 97 122=r;have Hr:=hO hr;clear hr;go_wp2
 exact bodyPost_ret (v:=.tuple #[sv r,.int .i64 0]) (by simp [results,Tryz.results153,go_sem, *]) rfl ⟨by rw [Hr.out],(((HR1.setCell (by simp) _).setCell (by simp) _).setCell (by simp) _).setCell (by simp) _⟩
theorem zlS (w:World) :
  Calls Tryz.prog 153 #[.int .u8 112] w (rB w (.tuple #[sv (spn 33 126 &&& ~~~ (spn 65 90 ||| spn 97 122 ||| spn 48 57)),.int .i64 0])):=by
 have HH:=hO (Holds.zero w);have HR:=hO (zaM w z4);have HQ:Hid (Below (w.heap.size+1) (w.alloc z4) (w.alloc z4)):=bR _ _;go_enter Tryz.func153,Tryz.ntmps153;go_wp2_with fail;refine (zaE 33 126 _ (by omega) (by omega) (by omega)).mono ?_;rintro e w1 ⟨rfl,hb⟩
 replace HQ:=(show Hid _ from HQ.trans (hb.mono (by first | exact HQ.size | (have h:=HQ.size;simp at h;omega) | simp)))
 go_wp2_with fail;refine (zce _).mono ?_;rintro e w1 ⟨rfl,hb⟩
 replace HQ:=(show Hid _ from HQ.trans (hb.mono (by first | exact HQ.size | (have h:=HQ.size;simp at h;omega) | simp)))
 go_wp2_with fail;refine (zlq _ _ _).mono ?_;rintro e w1 ⟨rfl,hb⟩
 replace HQ:=(show Hid _ from HQ.trans (hb.mono (by first | exact HQ.size | (have h:=HQ.size;simp at h;omega) | simp)))
 have HR1:=hO (HR.trans (HQ.mono (by omega)));obtain ⟨l0,c0,c1,c2,c3,f0,f1,f2,f3⟩:=HH.below HQ (by omega);generalize hr:spn 33 126 &&& ~~~ (spn 65 90 ||| spn 97 122 ||| spn 48 57)=r;have Hr:=hO hr;clear hr;go_wp2
 exact bodyPost_ret (v:=.tuple #[sv r,.int .i64 0]) (by simp [results,Tryz.results153,go_sem, *]) rfl ⟨by rw [Hr.out],(((HR1.setCell (by simp) _).setCell (by simp) _).setCell (by simp) _).setCell (by simp) _⟩
theorem zlT (w:World) :
  Calls Tryz.prog 153 #[.int .u8 115] w (rB w (.tuple #[sv (spn 9 13 ||| bt 32),.int .i64 0])):=by
 have HH:=hO (Holds.zero w);have HR:=hO (zaM w z4);have HQ:Hid (Below (w.heap.size+1) (w.alloc z4) (w.alloc z4)):=bR _ _;go_enter Tryz.func153,Tryz.ntmps153;go_wp2_with fail;refine (zaE 9 13 _ (by omega) (by omega) (by omega)).mono ?_;rintro e w1 ⟨rfl,hb⟩
 replace HQ:=(show Hid _ from HQ.trans (hb.mono (by first | exact HQ.size | (have h:=HQ.size;simp at h;omega) | simp)))
 go_wp2_with fail;refine (zfn _ 32 _ (by omega) (by omega)).mono ?_;rintro e w1 ⟨rfl,hb⟩
 replace HQ:=(show Hid _ from HQ.trans (hb.mono (by first | exact HQ.size | (have h:=HQ.size;simp at h;omega) | simp)))
 rw [show (32:Int).toNat=32 from rfl];have HR1:=hO (HR.trans (HQ.mono (by omega)));obtain ⟨l0,c0,c1,c2,c3,f0,f1,f2,f3⟩:=HH.below HQ (by omega);generalize hr:spn 9 13 ||| bt 32=r;have Hr:=hO hr;clear hr;go_wp2
 exact bodyPost_ret (v:=.tuple #[sv r,.int .i64 0]) (by simp [results,Tryz.results153,go_sem, *]) rfl ⟨by rw [Hr.out],(((HR1.setCell (by simp) _).setCell (by simp) _).setCell (by simp) _).setCell (by simp) _⟩
theorem zlU (w:World) :
  Calls Tryz.prog 153 #[.int .u8 117] w (rB w (.tuple #[sv (spn 65 90),.int .i64 0])):=by
 have HH:=hO (Holds.zero w);have HR:=hO (zaM w z4);have HQ:Hid (Below (w.heap.size+1) (w.alloc z4) (w.alloc z4)):=bR _ _;go_enter Tryz.func153,Tryz.ntmps153;go_wp2_with fail;refine (zaE 65 90 _ (by omega) (by omega) (by omega)).mono ?_;rintro e w1 ⟨rfl,hb⟩
 replace HQ:=(show Hid _ from HQ.trans (hb.mono (by first | exact HQ.size | (have h:=HQ.size;simp at h;omega) | simp)))
 have HR1:=hO (HR.trans (HQ.mono (by omega)));obtain ⟨l0,c0,c1,c2,c3,f0,f1,f2,f3⟩:=HH.below HQ (by omega);generalize hr:spn 65 90=r;have Hr:=hO hr;clear hr;go_wp2
 exact bodyPost_ret (v:=.tuple #[sv r,.int .i64 0]) (by simp [results,Tryz.results153,go_sem, *]) rfl ⟨by rw [Hr.out],(((HR1.setCell (by simp) _).setCell (by simp) _).setCell (by simp) _).setCell (by simp) _⟩
theorem zlV (w:World) :
  Calls Tryz.prog 153 #[.int .u8 119] w (rB w (.tuple #[sv (spn 65 90 ||| spn 97 122 ||| spn 48 57),.int .i64 0])):=by
 have HH:=hO (Holds.zero w);have HR:=hO (zaM w z4);have HQ:Hid (Below (w.heap.size+1) (w.alloc z4) (w.alloc z4)):=bR _ _;go_enter Tryz.func153,Tryz.ntmps153;go_wp2_with fail;refine (zce _).mono ?_;rintro e w1 ⟨rfl,hb⟩
 replace HQ:=(show Hid _ from HQ.trans (hb.mono (by first | exact HQ.size | (have h:=HQ.size;simp at h;omega) | simp)))
 have HR1:=hO (HR.trans (HQ.mono (by omega)));obtain ⟨l0,c0,c1,c2,c3,f0,f1,f2,f3⟩:=HH.below HQ (by omega);generalize hr:spn 65 90 ||| spn 97 122 ||| spn 48 57=r;have Hr:=hO hr;clear hr;go_wp2
 exact bodyPost_ret (v:=.tuple #[sv r,.int .i64 0]) (by simp [results,Tryz.results153,go_sem, *]) rfl ⟨by rw [Hr.out],(((HR1.setCell (by simp) _).setCell (by simp) _).setCell (by simp) _).setCell (by simp) _⟩
theorem zlW (w:World) :
  Calls Tryz.prog 153 #[.int .u8 120] w (rB w (.tuple #[sv (spn 48 57 ||| spn 65 70 ||| spn 97 102),.int .i64 0])):=by
 have HH:=hO (Holds.zero w);have HR:=hO (zaM w z4);have HQ:Hid (Below (w.heap.size+1) (w.alloc z4) (w.alloc z4)):=bR _ _;go_enter Tryz.func153,Tryz.ntmps153;go_wp2_with fail;refine (zaE 48 57 _ (by omega) (by omega) (by omega)).mono ?_;rintro e w1 ⟨rfl,hb⟩
 replace HQ:=(show Hid _ from HQ.trans (hb.mono (by first | exact HQ.size | (have h:=HQ.size;simp at h;omega) | simp)))
 go_wp2_with fail;refine (zcX _ 65 70 _ (by omega) (by omega) (by omega)).mono ?_;rintro e w1 ⟨rfl,hb⟩
 replace HQ:=(show Hid _ from HQ.trans (hb.mono (by first | exact HQ.size | (have h:=HQ.size;simp at h;omega) | simp)))
 go_wp2_with fail;refine (zcX _ 97 102 _ (by omega) (by omega) (by omega)).mono ?_;rintro e w1 ⟨rfl,hb⟩
 replace HQ:=(show Hid _ from HQ.trans (hb.mono (by first | exact HQ.size | (have h:=HQ.size;simp at h;omega) | simp)))
 have HR1:=hO (HR.trans (HQ.mono (by omega)));obtain ⟨l0,c0,c1,c2,c3,f0,f1,f2,f3⟩:=HH.below HQ (by omega);generalize hr:spn 48 57 ||| spn 65 70 ||| spn 97 102=r;have Hr:=hO hr;clear hr;go_wp2
 exact bodyPost_ret (v:=.tuple #[sv r,.int .i64 0]) (by simp [results,Tryz.results153,go_sem, *]) rfl ⟨by rw [Hr.out],(((HR1.setCell (by simp) _).setCell (by simp) _).setCell (by simp) _).setCell (by simp) _⟩
theorem zjL (n:Int) (w:World) (h97:(n==97)=false) (h99:(n==99)=false) (h100:(n==100)=false) (h103:(n==103)=false) (h108:(n==108)=false) (h112:(n==112)=false) (h115:(n==115)=false) (h117:(n==117)=false) (h119:(n==119)=false) (h120:(n==120)=false) :
  Calls Tryz.prog 153 #[.int .u8 n] w (rB w (.tuple #[sv 0#256,.int .i64 10])):=by
 have HR:=hO (zaM w z4);go_enter Tryz.func153,Tryz.ntmps153;go_wp2
 exact bodyPost_ret (v:=.tuple #[sv 0#256,.int .i64 10]) (by simp [results,Tryz.results153,go_sem,zak]) rfl ⟨rfl,HR.out⟩
theorem zeG (n:Nat) (w:World) :
  Calls Tryz.prog 153 #[.int .u8 n] w (rB w (.tuple #[sv (sml n).1,.int .i64 (sml n).2])):=by
 by_cases h97:n=97
 ·subst h97;rw [znt];exact zon w
 by_cases h99:n=99
 ·subst h99;rw [znu];exact zoo w
 by_cases h100:n=100
 ·subst h100;rw [ziS];exact zlP w
 by_cases h103:n=103
 ·subst h103;rw [ziT];exact zlQ w
 by_cases h108:n=108
 ·subst h108;rw [ziU];exact zlR w
 by_cases h112:n=112
 ·subst h112;rw [ziV];exact zlS w
 by_cases h115:n=115
 ·subst h115;rw [ziW];exact zlT w
 by_cases h117:n=117
 ·subst h117;rw [ziX];exact zlU w
 by_cases h119:n=119
 ·subst h119;rw [ziY];exact zlV w
 by_cases h120:n=120
 ·subst h120;rw [ziZ];exact zlW w
 rw [zfr n h97 h99 h100 h103 h108 h112 h115 h117 h119 h120];exact zjL n w (bF (by omega)) (bF (by omega)) (bF (by omega)) (bF (by omega)) (bF (by omega)) (bF (by omega)) (bF (by omega)) (bF (by omega)) (bF (by omega)) (bF (by omega))
theorem zeH (n:Nat) (h:¬(65<=n/\n<=90)):cls n=sml n:=by unfold cls;rw [iN h]
theorem zgS (n:Nat) (h:65<=n/\n<=90) (he:(sml (n+32)).2=0):cls n=(~~~ (sml (n+32)).1,0):=by unfold cls;rw [iP h,iP he]
theorem zjM (n:Nat) (h:65<=n/\n<=90) (he:(sml (n+32)).2=10):cls n=(0#256,10):=by
 unfold cls;rw [iP h,iN (by omega),he]
theorem zcl {B:Nat} {w w':World} {b:Nat} (h:Below B w w') (hb:B<=b) (y:BitVec 256):Below B w (znp w' b y) :=
 (((h.setCell hb _).setCell hb _).setCell hb _).setCell hb _
theorem zeI (n:Nat) (hn:n<256) (w:World) :
  Calls Tryz.prog 136 #[.int .u8 n] w (rB w (.tuple #[sv (cls n).1,.int .i64 (cls n).2])):=by
 have HH:=hO (Holds.zero w);have HR:=hO (zaM w z4);have hw8:IntKind.i64.wrap (n:Int)=(n:Int):=by rw [wI];omega
 by_cases hc:65<=n/\n<=90
 ·have hcap:zns (n:Int)=true:=by simp [zns];omega
  have hn1:(n:Int)<=90:=by omega
  have Hc:=hO hc;clear hc
  rcases zdN (n+32) with he | he
  ·have HE:=hO (zgS n Hc he)
   go_enter Tryz.func136,Tryz.ntmps136;go_wp2_with fail;refine (zcp _ _).mono ?_;rintro e w1 ⟨rfl,rfl⟩;go_wp2_with fail;rw [show (n:Int)+32=((n+32:Nat):Int) from by omega];refine (zeG (n+32) _).mono ?_;rintro e w1 ⟨rfl,hb⟩;have hl:w.heap.size<w1.heap.size:=by have h:=hb.size;simp at h;omega
   have HR1:=hO (HR.trans (hb.mono (by simp)));have HH1:=hO (HH.below hb (by simp));rw [he];clear he hb HH HR;generalize (sml (n+32)).1=r at *;go_wp2_with fail;refine (zgy r _).mono ?_;rintro e w2 ⟨rfl,hb⟩;have HR2:=hO ((HR1.alloc (by omega) (c4 r)).trans (hb.mono (by simp;omega)));have hl2:w.heap.size<w2.heap.size:=by have h:=hb.size;simp at h;omega
   obtain ⟨l0,c0,c1,c2,c3,f0,f1,f2,f3⟩:=(HH1.alloc (c4 r)).below hb (by simp;omega);generalize hr : ~~~ r=q at *;clear hr hb;go_wp2
   rw [HE.out];refine bodyPost_ret (v:=.tuple #[sv q,.int .i64 0]) (by simp [results,Tryz.results136,go_sem, *]) rfl ⟨rfl,zcl HR2 (nL _) _⟩
  ·have HE:=hO (zjM n Hc he)
   go_enter Tryz.func136,Tryz.ntmps136;go_wp2_with fail;refine (zcp _ _).mono ?_;rintro e w1 ⟨rfl,rfl⟩;go_wp2_with fail;rw [show (n:Int)+32=((n+32:Nat):Int) from by omega];refine (zeG (n+32) _).mono ?_;rintro e w1 ⟨rfl,hb⟩;have hl:w.heap.size<w1.heap.size:=by have h:=hb.size;simp at h;omega
   have HR1:=hO (HR.trans (hb.mono (by simp)));obtain ⟨l0,c0,c1,c2,c3,f0,f1,f2,f3⟩:=HH.below hb (by simp);rw [he];clear he hb HH HR;generalize (sml (n+32)).1=r at *;go_wp2
   rw [HE.out];refine bodyPost_ret (v:=.tuple #[sv 0#256,.int .i64 10]) (by simp [results,Tryz.results136,go_sem,zak, *]) rfl ⟨rfl,?_⟩
   repeat (first | exact HR1.out | (refine Below.setCell ?_ (by first | omega | (simp <;> omega)) _) | (refine Below.alloc ?_ (by first | omega | (simp <;> omega)) _))
 ·have hcap:zns (n:Int)=false:=by simp [zns];omega
  have HE:=hO (zeH n hc);clear hc;go_enter Tryz.func136,Tryz.ntmps136;go_wp2_with fail;refine (zcp _ _).mono ?_;rintro e w1 ⟨rfl,rfl⟩;go_wp2_with fail;refine (zeG n _).mono ?_;rintro e w1 ⟨rfl,hb⟩;have hl:w.heap.size<w1.heap.size:=by have h:=hb.size;simp at h;omega
  have HR1:=hO (HR.trans (hb.mono (by simp)));obtain ⟨l0,c0,c1,c2,c3,f0,f1,f2,f3⟩:=HH.below hb (by simp);clear hb HH HR;generalize sml n=rq at *;obtain ⟨r,q⟩:=rq;dsimp only;go_wp2
  refine bodyPost_ret (v:=.tuple #[sv r,.int .i64 q]) (by simp [results,Tryz.results136,go_sem, *]) rfl ⟨by rw [HE.out],zcl HR1 (nL _) _⟩
theorem below_drewN {B:Nat} {a w:World} (h:Below B a w) (n:Nat):Below B a (w.drewN n):=by
 induction n with
 | zero=>exact h
 | succ n ih=>exact ih.drew
theorem zm1 {f:FuncId} {args:Array Value} {v:Value} {w:World} (h:Calls Tryz.prog f args w (rU w v)):Calls Tryz.prog f args w fun e w'=>e=.returned v/\∃n,w'=w.drewN n:=h.mono fun _ _ ⟨h1,h2⟩=>⟨h1,0,h2⟩
theorem zjN (s:ByteArray):∀m i,i<=hx7 s i m/\hx7 s i m<=i+m/\(i<=s.size->hx7 s i m<=s.size):=by
 intro m
 induction m with
 | zero=>intro i;exact ⟨nL _,nL _,fun q=>q⟩
 | succ m ih =>
  intro i;rw [hx7]
  split
  ·next h =>
   have h1:=zee h;obtain ⟨a,b,c⟩:=ih (i+1);exact ⟨by omega,by omega,fun _=>c (by omega)⟩
  ·exact ⟨nL _,by omega,fun q=>q⟩
theorem zjO (s:ByteArray):∀m i k,i<=k->k<hx7 s i m->0<=zaI (chr s k):=by
 intro m
 induction m with
 | zero=>intro i k h1 h2;rw [hx7] at h2;omega
 | succ m ih =>
  intro i k h1 h2;rw [hx7] at h2
  split at h2
  ·next h =>
   by_cases e:k=i
   ·subst e;exact h
   ·exact ih (i+1) k (by omega) h2
  ·omega
theorem zjP (s:ByteArray) (i:Nat) (base:Int) (hb:0<=base):∀k,(∀j,j<k->0<=zaI (chr s (i+j)))->0<=zaF s i base k:=by
 intro k
 induction k with
 | zero=>intro _;exact Int.le_refl _
 | succ k ih =>
  intro h;rw [zaF];have h1:=Int.mul_nonneg (ih (fun j hj=>h j (by omega))) hb;have h2:=h k (by omega);omega
def zgu (s:ByteArray) (b f1 e1 f2 e2:Nat):Sum Tk (Nat×Int) :=
 if e1=f1∨f1+6<e1∨e2=f2∨f2+6<e2∨chr s e2≠125 then .inr (b,30)
 else if zaF s f2 16 (e2 - f2)<zaF s f1 16 (e1 - f1)∨1114111<zaF s f2 16 (e2 - f2) then .inr (b,30)
 else .inl ⟨5,zaF s f1 16 (e1 - f1),b,e2+1,⟨#[]⟩,zaF s f2 16 (e2 - f2),0,0,0⟩
theorem ptsR_y {s:ByteArray} {b:Nat} (h:chr s (zbT s (b+3))=45):zbY s b=zgu s b (b+3) (zbT s (b+3)) (zbT s (b+3)+1) (zbT s (zbT s (b+3)+1)):=by unfold zbY zgu;simp only [h,if_true]
theorem ptsR_n {s:ByteArray} {b:Nat} (h:¬chr s (zbT s (b+3))=45):zbY s b=zgu s b (b+3) (zbT s (b+3)) (b+3) (zbT s (b+3)):=by unfold zbY zgu;simp only [iN h]
theorem zgT (s:ByteArray) (b e1:Nat) (hs:s.size<=140737488355000) (hb:b+3<=s.size) (he1:e1=zbT s (b+3)) (hd:chr s e1=45) (w:World):Calls Tryz.prog 92 #[.string s,.int .i64 b] w (rB w (zcs (zbY s b))):=by
 have HWr:Hid (∀i e w,Cl 58 #[.int .i64 i,.int .i64 e] w fun e' w'=>e'=.returned (.tuple #[tkG tk0,.int .i64 i,.int .i64 e])/\Below w.heap.size w w'):=fun i e w=>zbO i e w
 have HA:Hid (∀k w,Cl 55 #[.string s,.int .i64 ((k:Nat):Int)] w (rU w (.int .i64 (chr s k)))):=fun k w=>za0 s k w
 have HH1:Hid (∀w,Cl 120 #[.string s,.int .i64 ((b:Int)+3)] w (rU w (.int .i64 e1))):=fun w=>by
  have h:=zgD s (b+3) (by omega) (by omega) w;rw [<-he1] at h;exact h
 have hbd1:=zjN s 7 (b+3);rw [show hx7 s (b+3) 7=e1 from he1.symm] at hbd1;have t0:(chr s e1==45)=true:=by rw [hd];rfl
 have h1s:e1<s.size:=zaB (by omega);obtain ⟨e2,he2⟩:∃e2,e2=zbT s (e1+1):=⟨_,rfl⟩;have HH2:Hid (∀w,Cl 120 #[.string s,.int .i64 ((e1:Int)+1)] w (rU w (.int .i64 e2))):=fun w=>by
  have h:=zgD s (e1+1) (by omega) (by omega) w;rw [<-he2] at h;exact h
 have hbd2:=zjN s 7 (e1+1);rw [show hx7 s (e1+1) 7=e2 from he2.symm] at hbd2;have HU:Hid (zbY s b=zgu s b (b+3) e1 (e1+1) e2):=by
  show zbY s b=_
  rw [ptsR_y (by rw [<-he1];exact hd),<-he1,<-he2]
 have hnn:0<=zaF s (e1+1) 16 (e2 - (e1+1)):=zjP s _ 16 (by omega) _ (fun k hk=>zjO s 7 (e1+1) _ (by omega) (by rw [show hx7 s (e1+1) 7=e2 from he2.symm];omega));have hl1:=hbd1.2.2 hb;have hl2:=hbd2.2.2 (by omega);have hg1:=hbd1.1;have hg2:=hbd2.1;clear hbd1 hbd2 he1 he2 hd;have HW:Hid (∀f e w,f<=e->e<=f+6->e<=s.size->Cl 85 #[.string (s.extract f e),.int .i64 16] w fun e' w'=>e'=.returned (.int .i64 (zaF s f 16 (e - f)))/\w'=w):=fun f e w h1 h2 h3=>by
  have hsz:(s.extract f e).size=e - f:=by rw [ByteArray.size_extract];omega
  have h:=zdm (s.extract f e) 16 (by omega) (by omega) w;rw [hsz,zcq (by omega) (e - f) (by omega)] at h;exact h
 have HX:Hid (TX (w.alloc (tkO tk0)) w.heap.size tk0):=TX.new w tk0;have HB:Hid (Below w.heap.size w (w.alloc (tkO tk0))):=zaa w _;by_cases h1:e1=b+3
 ·have HE:Hid (zbY s b=.inr (b,30)):=by show zbY s b=_;rw [HU.out];unfold zgu;rw [iP (.inl h1)]
  have t1:((e1:Int)==(b:Int)+3)=true:=by rw [beq_iff_eq];omega
  clear HU HW h1;go_enter Tryz.func92,Tryz.ntmps92;go_wp2_with fail;refine (HH1 _).mono ?_;rintro e w2 ⟨rfl,rfl⟩;go_wp2_with fail;refine (HA _ _).mono ?_;rintro e w2 ⟨rfl,rfl⟩;go_wp2_with fail;refine (HH2 _).mono ?_;rintro e w2 ⟨rfl,rfl⟩;go_wp2_with fail;refine (HWr _ _ _).mono ?_;rintro e w3 ⟨rfl,b3⟩;have HX3:=hO (HX.below b3);have HB3:Hid (Below w.heap.size w w3):=HB.trans (b3.mono HB.size);clear b3 HWr HX HB;obtain ⟨c0,c1,c2,c3,c4,c5,c6,c7,c8⟩:=HX3.cells;obtain ⟨f0,f1',f2',f3,f4,f5,f6,f7,f8⟩:=HX3.fz;go_wp2_with fail;exact zai rfl rfl rfl rfl rfl (zar HX3 tk0) ⟨by rw [HE.out];rfl,zac HB3 (nL _) tk0⟩
 have t1:((e1:Int)==(b:Int)+3)=false:=by rw [beq_eq_false_iff_ne];omega
 by_cases h2:b+3+6<e1
 ·have HE:Hid (zbY s b=.inr (b,30)):=by show zbY s b=_;rw [HU.out];unfold zgu;rw [iP (.inr (.inl h2))]
  have t2:(b:Int)+3+6<(e1:Int):=by omega
  clear HU HW;go_enter Tryz.func92,Tryz.ntmps92;go_wp2_with fail;refine (HH1 _).mono ?_;rintro e w2 ⟨rfl,rfl⟩;go_wp2_with fail;refine (HA _ _).mono ?_;rintro e w2 ⟨rfl,rfl⟩;go_wp2_with fail;refine (HH2 _).mono ?_;rintro e w2 ⟨rfl,rfl⟩;go_wp2_with fail;refine (HWr _ _ _).mono ?_;rintro e w3 ⟨rfl,b3⟩;have HX3:=hO (HX.below b3);have HB3:Hid (Below w.heap.size w w3):=HB.trans (b3.mono HB.size);clear b3 HWr HX HB;obtain ⟨c0,c1,c2,c3,c4,c5,c6,c7,c8⟩:=HX3.cells;obtain ⟨f0,f1',f2',f3,f4,f5,f6,f7,f8⟩:=HX3.fz;go_wp2_with fail;exact zai rfl rfl rfl rfl rfl (zar HX3 tk0) ⟨by rw [HE.out];rfl,zac HB3 (nL _) tk0⟩
 have t2:¬(b:Int)+3+6<(e1:Int):=by omega
 by_cases h3:e2=e1+1
 ·have HE:Hid (zbY s b=.inr (b,30)):=by show zbY s b=_;rw [HU.out];unfold zgu;rw [iP (.inr (.inr (.inl h3)))]
  have t3:((e2:Int)==(e1:Int)+1)=true:=by rw [beq_iff_eq];omega
  clear HU HW h3;go_enter Tryz.func92,Tryz.ntmps92;go_wp2_with fail;refine (HH1 _).mono ?_;rintro e w2 ⟨rfl,rfl⟩;go_wp2_with fail;refine (HA _ _).mono ?_;rintro e w2 ⟨rfl,rfl⟩;go_wp2_with fail;refine (HH2 _).mono ?_;rintro e w2 ⟨rfl,rfl⟩;go_wp2_with fail;refine (HWr _ _ _).mono ?_;rintro e w3 ⟨rfl,b3⟩;have HX3:=hO (HX.below b3);have HB3:Hid (Below w.heap.size w w3):=HB.trans (b3.mono HB.size);clear b3 HWr HX HB;obtain ⟨c0,c1,c2,c3,c4,c5,c6,c7,c8⟩:=HX3.cells;obtain ⟨f0,f1',f2',f3,f4,f5,f6,f7,f8⟩:=HX3.fz;go_wp2_with fail;exact zai rfl rfl rfl rfl rfl (zar HX3 tk0) ⟨by rw [HE.out];rfl,zac HB3 (nL _) tk0⟩
 have t3:((e2:Int)==(e1:Int)+1)=false:=by rw [beq_eq_false_iff_ne];omega
 by_cases h4:e1+1+6<e2
 ·have HE:Hid (zbY s b=.inr (b,30)):=by show zbY s b=_;rw [HU.out];unfold zgu;rw [iP (.inr (.inr (.inr (.inl h4))))]
  have t4:(e1:Int)+1+6<(e2:Int):=by omega
  clear HU HW;go_enter Tryz.func92,Tryz.ntmps92;go_wp2_with fail;refine (HH1 _).mono ?_;rintro e w2 ⟨rfl,rfl⟩;go_wp2_with fail;refine (HA _ _).mono ?_;rintro e w2 ⟨rfl,rfl⟩;go_wp2_with fail;refine (HH2 _).mono ?_;rintro e w2 ⟨rfl,rfl⟩;go_wp2_with fail;refine (HWr _ _ _).mono ?_;rintro e w3 ⟨rfl,b3⟩;have HX3:=hO (HX.below b3);have HB3:Hid (Below w.heap.size w w3):=HB.trans (b3.mono HB.size);clear b3 HWr HX HB;obtain ⟨c0,c1,c2,c3,c4,c5,c6,c7,c8⟩:=HX3.cells;obtain ⟨f0,f1',f2',f3,f4,f5,f6,f7,f8⟩:=HX3.fz;go_wp2_with fail;exact zai rfl rfl rfl rfl rfl (zar HX3 tk0) ⟨by rw [HE.out];rfl,zac HB3 (nL _) tk0⟩
 have t4:¬(e1:Int)+1+6<(e2:Int):=by omega
 by_cases h5:chr s e2=125
 ·have t5:(chr s e2 != 125)=false:=by rw [h5];rfl
  have HV:Hid (zbY s b=if zaF s (e1+1) 16 (e2 - (e1+1))<zaF s (b+3) 16 (e1 - (b+3))∨1114111<zaF s (e1+1) 16 (e2 - (e1+1)) then .inr (b,30) else .inl ⟨5,zaF s (b+3) 16 (e1 - (b+3)),b,e2+1,⟨#[]⟩,zaF s (e1+1) 16 (e2 - (e1+1)),0,0,0⟩):=by show zbY s b=_;rw [HU.out];unfold zgu;rw [iN (by omega)]
  have HW1:Hid (∀w,Cl 85 #[.string (s.extract (b+3) e1),.int .i64 16] w fun e' w'=>e'=.returned (.int .i64 (zaF s (b+3) 16 (e1 - (b+3))))/\w'=w):=fun w=>HW (b+3) e1 w (by omega) (by omega) (by omega)
  have HW2:Hid (∀w,Cl 85 #[.string (s.extract (e1+1) e2),.int .i64 16] w fun e' w'=>e'=.returned (.int .i64 (zaF s (e1+1) 16 (e2 - (e1+1))))/\w'=w):=fun w=>HW (e1+1) e2 w (by omega) (by omega) (by omega)
  clear HU HW h5;generalize zaF s (b+3) 16 (e1 - (b+3))=x1 at *;generalize zaF s (e1+1) 16 (e2 - (e1+1))=x2 at *;have y1:(0:Int)<=(b:Int)+3:=by omega
  have y2:(b:Int)+3<=(e1:Int):=by omega
  have y3:(e1:Int)<=(s.size:Int):=by omega
  have y4:(0:Int)<=(e1:Int)+1:=by omega
  have y5:(e1:Int)+1<=(e2:Int):=by omega
  have y6:(e2:Int)<=(s.size:Int):=by omega
  by_cases g1:x2<x1
  ·have HE:Hid (zbY s b=.inr (b,30)):=by show zbY s b=_;rw [HV.out,iP (.inl g1)]
   have v1:decide (x2<x1)=true:=decide_eq_true g1;clear HV;go_enter Tryz.func92,Tryz.ntmps92;go_wp2_with fail;refine (HH1 _).mono ?_;rintro e w2 ⟨rfl,rfl⟩;go_wp2_with fail;refine (HA _ _).mono ?_;rintro e w2 ⟨rfl,rfl⟩;go_wp2_with fail;refine (HH2 _).mono ?_;rintro e w2 ⟨rfl,rfl⟩;go_wp2_with fail;refine (HA _ _).mono ?_;rintro e w2 ⟨rfl,rfl⟩;clear HH1 HH2 HA;go_wp2_with fail;go_quiet ((go_at_call 85;first | with_reducible exact Calls.quiet_of (zm1 (HW1.out _)) | with_reducible exact Calls.quiet_of (zm1 (HW2.out _))))
   have HXd:Hid (TX ((w.alloc (.cells #[.int .i64 0,.int .i64 0,.int .i64 0,.int .i64 0,.string ⟨#[]⟩,.int .u64 0,.int .u64 0,.int .u64 0,.int .u64 0] 79)).drewN nq) w.heap.size tk0):=HX.below (below_drewN (bR _ _) nq);have HBd:Hid (Below w.heap.size w ((w.alloc (.cells #[.int .i64 0,.int .i64 0,.int .i64 0,.int .i64 0,.string ⟨#[]⟩,.int .u64 0,.int .u64 0,.int .u64 0,.int .u64 0] 79)).drewN nq)):=below_drewN HB nq;clear HW1 HW2;generalize (w.alloc (.cells #[.int .i64 0,.int .i64 0,.int .i64 0,.int .i64 0,.string ⟨#[]⟩,.int .u64 0,.int .u64 0,.int .u64 0,.int .u64 0] 79)).drewN nq=w5 at *;go_wp2_with fail;refine (HWr _ _ _).mono ?_;rintro e w3 ⟨rfl,b3⟩;have HX3:=hO (HXd.below b3);have HB3:Hid (Below w.heap.size w w3):=HBd.trans (b3.mono HBd.size);clear b3 HWr HX HB HXd HBd;obtain ⟨c0,c1,c2,c3,c4,c5,c6,c7,c8⟩:=HX3.cells;obtain ⟨f0,f1',f2',f3,f4,f5,f6,f7,f8⟩:=HX3.fz;go_wp2_with fail;exact zai rfl rfl rfl rfl rfl (zar HX3 tk0) ⟨by rw [HE.out];rfl,zac HB3 (nL _) tk0⟩
  have v1:decide (x2<x1)=false:=dF g1;by_cases g2:1114111<x2
  ·have HE:Hid (zbY s b=.inr (b,30)):=by show zbY s b=_;rw [HV.out,iP (.inr g2)]
   have v2:decide (1114111<x2)=true:=decide_eq_true g2;clear HV;go_enter Tryz.func92,Tryz.ntmps92;go_wp2_with fail;refine (HH1 _).mono ?_;rintro e w2 ⟨rfl,rfl⟩;go_wp2_with fail;refine (HA _ _).mono ?_;rintro e w2 ⟨rfl,rfl⟩;go_wp2_with fail;refine (HH2 _).mono ?_;rintro e w2 ⟨rfl,rfl⟩;go_wp2_with fail;refine (HA _ _).mono ?_;rintro e w2 ⟨rfl,rfl⟩;clear HH1 HH2 HA;go_wp2_with fail;go_quiet ((go_at_call 85;first | with_reducible exact Calls.quiet_of (zm1 (HW1.out _)) | with_reducible exact Calls.quiet_of (zm1 (HW2.out _))))
   have HXd:Hid (TX ((w.alloc (.cells #[.int .i64 0,.int .i64 0,.int .i64 0,.int .i64 0,.string ⟨#[]⟩,.int .u64 0,.int .u64 0,.int .u64 0,.int .u64 0] 79)).drewN nq) w.heap.size tk0):=HX.below (below_drewN (bR _ _) nq);have HBd:Hid (Below w.heap.size w ((w.alloc (.cells #[.int .i64 0,.int .i64 0,.int .i64 0,.int .i64 0,.string ⟨#[]⟩,.int .u64 0,.int .u64 0,.int .u64 0,.int .u64 0] 79)).drewN nq)):=below_drewN HB nq;clear HW1 HW2;generalize (w.alloc (.cells #[.int .i64 0,.int .i64 0,.int .i64 0,.int .i64 0,.string ⟨#[]⟩,.int .u64 0,.int .u64 0,.int .u64 0,.int .u64 0] 79)).drewN nq=w5 at *;go_wp2_with fail;refine (HWr _ _ _).mono ?_;rintro e w3 ⟨rfl,b3⟩;have HX3:=hO (HXd.below b3);have HB3:Hid (Below w.heap.size w w3):=HBd.trans (b3.mono HBd.size);clear b3 HWr HX HB HXd HBd;obtain ⟨c0,c1,c2,c3,c4,c5,c6,c7,c8⟩:=HX3.cells;obtain ⟨f0,f1',f2',f3,f4,f5,f6,f7,f8⟩:=HX3.fz;go_wp2_with fail;exact zai rfl rfl rfl rfl rfl (zar HX3 tk0) ⟨by rw [HE.out];rfl,zac HB3 (nL _) tk0⟩
  ·have HE:Hid (zbY s b=.inl ⟨5,x1,b,e2+1,⟨#[]⟩,x2,0,0,0⟩):=by show zbY s b=_;rw [HV.out,iN (by omega)]
   have v2:decide (1114111<x2)=false:=dF g2;have u9:IntKind.u64.wrap x2=x2:=by rw [IntKind.wrap_u64];omega
   clear HV HWr;go_enter Tryz.func92,Tryz.ntmps92;go_wp2_with fail;refine (HH1 _).mono ?_;rintro e w2 ⟨rfl,rfl⟩;go_wp2_with fail;refine (HA _ _).mono ?_;rintro e w2 ⟨rfl,rfl⟩;go_wp2_with fail;refine (HH2 _).mono ?_;rintro e w2 ⟨rfl,rfl⟩;go_wp2_with fail;refine (HA _ _).mono ?_;rintro e w2 ⟨rfl,rfl⟩;clear HH1 HH2 HA;go_wp2_with fail;go_quiet ((go_at_call 85;first | with_reducible exact Calls.quiet_of (zm1 (HW1.out _)) | with_reducible exact Calls.quiet_of (zm1 (HW2.out _))))
   have HXd:Hid (TX ((w.alloc (.cells #[.int .i64 0,.int .i64 0,.int .i64 0,.int .i64 0,.string ⟨#[]⟩,.int .u64 0,.int .u64 0,.int .u64 0,.int .u64 0] 79)).drewN nq) w.heap.size tk0):=HX.below (below_drewN (bR _ _) nq);have HBd:Hid (Below w.heap.size w ((w.alloc (.cells #[.int .i64 0,.int .i64 0,.int .i64 0,.int .i64 0,.string ⟨#[]⟩,.int .u64 0,.int .u64 0,.int .u64 0,.int .u64 0] 79)).drewN nq)):=below_drewN HB nq;clear HW1 HW2;generalize (w.alloc (.cells #[.int .i64 0,.int .i64 0,.int .i64 0,.int .i64 0,.string ⟨#[]⟩,.int .u64 0,.int .u64 0,.int .u64 0,.int .u64 0] 79)).drewN nq=w5 at *;obtain ⟨c0,c1,c2,c3,c4,c5,c6,c7,c8⟩:=HXd.cells;obtain ⟨q0,q1,q2,q3,q4,q5,q6,q7,q8⟩:=HXd.fz;go_wp2_with fail;exact zai (t:=⟨5,x1,b,e2+1,⟨#[]⟩,x2,0,0,0⟩) (p:=0) (e:=0) rfl rfl rfl rfl rfl (zar HXd.out ⟨5,x1,b,e2+1,⟨#[]⟩,x2,0,0,0⟩) ⟨by rw [HE.out];rfl,zac HBd (nL _) ⟨5,x1,b,e2+1,⟨#[]⟩,x2,0,0,0⟩⟩
 ·have t5:(chr s e2 != 125)=true:=by rw [bne,bF h5];rfl
  have HE:Hid (zbY s b=.inr (b,30)):=by show zbY s b=_;rw [HU.out];unfold zgu;rw [iP (.inr (.inr (.inr (.inr h5))))]
  clear HU HW h5;go_enter Tryz.func92,Tryz.ntmps92;go_wp2_with fail;refine (HH1 _).mono ?_;rintro e w2 ⟨rfl,rfl⟩;go_wp2_with fail;refine (HA _ _).mono ?_;rintro e w2 ⟨rfl,rfl⟩;go_wp2_with fail;refine (HH2 _).mono ?_;rintro e w2 ⟨rfl,rfl⟩;go_wp2_with fail;refine (HA _ _).mono ?_;rintro e w2 ⟨rfl,rfl⟩;go_wp2_with fail;refine (HWr _ _ _).mono ?_;rintro e w3 ⟨rfl,b3⟩;have HX3:=hO (HX.below b3);have HB3:Hid (Below w.heap.size w w3):=HB.trans (b3.mono HB.size);clear b3 HWr HX HB;obtain ⟨c0,c1,c2,c3,c4,c5,c6,c7,c8⟩:=HX3.cells;obtain ⟨f0,f1',f2',f3,f4,f5,f6,f7,f8⟩:=HX3.fz;go_wp2_with fail;exact zai rfl rfl rfl rfl rfl (zar HX3 tk0) ⟨by rw [HE.out];rfl,zac HB3 (nL _) tk0⟩
theorem zgd (s:ByteArray) (b e1:Nat) (hs:s.size<=140737488355000) (hb:b+3<=s.size) (he1:e1=zbT s (b+3)) (hd:¬chr s e1=45) (w:World):Calls Tryz.prog 92 #[.string s,.int .i64 b] w (rB w (zcs (zbY s b))):=by
 have HWr:Hid (∀i e w,Cl 58 #[.int .i64 i,.int .i64 e] w fun e' w'=>e'=.returned (.tuple #[tkG tk0,.int .i64 i,.int .i64 e])/\Below w.heap.size w w'):=fun i e w=>zbO i e w
 have HA:Hid (∀k w,Cl 55 #[.string s,.int .i64 ((k:Nat):Int)] w (rU w (.int .i64 (chr s k)))):=fun k w=>za0 s k w
 have HH1:Hid (∀w,Cl 120 #[.string s,.int .i64 ((b:Int)+3)] w (rU w (.int .i64 e1))):=fun w=>by
  have h:=zgD s (b+3) (by omega) (by omega) w;rw [<-he1] at h;exact h
 have hbd1:=zjN s 7 (b+3);rw [show hx7 s (b+3) 7=e1 from he1.symm] at hbd1;have t0:(chr s e1==45)=false:=bF hd;have HU:Hid (zbY s b=zgu s b (b+3) e1 (b+3) e1):=by
  show zbY s b=_
  rw [ptsR_n (by rw [<-he1];exact hd),<-he1]
 have hnn:0<=zaF s (b+3) 16 (e1 - (b+3)):=zjP s _ 16 (by omega) _ (fun k hk=>zjO s 7 (b+3) _ (by omega) (by rw [show hx7 s (b+3) 7=e1 from he1.symm];omega));have hl1:=hbd1.2.2 hb;have hg1:=hbd1.1;clear hbd1 he1 hd;have HW:Hid (b+3<=e1->e1<=b+3+6->∀w,Cl 85 #[.string (s.extract (b+3) e1),.int .i64 16] w fun e' w'=>e'=.returned (.int .i64 (zaF s (b+3) 16 (e1 - (b+3))))/\w'=w):=fun h1 h2 w=>by
  have hsz:(s.extract (b+3) e1).size=e1 - (b+3):=by rw [ByteArray.size_extract];omega
  have h:=zdm (s.extract (b+3) e1) 16 (by omega) (by omega) w;rw [hsz,zcq (by omega) (e1 - (b+3)) (by omega)] at h;exact h
 have HX:Hid (TX (w.alloc (tkO tk0)) w.heap.size tk0):=TX.new w tk0;have HB:Hid (Below w.heap.size w (w.alloc (tkO tk0))):=zaa w _;by_cases h1:e1=b+3
 ·have HE:Hid (zbY s b=.inr (b,30)):=by show zbY s b=_;rw [HU.out];unfold zgu;rw [iP (.inl h1)]
  have t1:((e1:Int)==(b:Int)+3)=true:=by rw [beq_iff_eq];omega
  clear HU HW h1;go_enter Tryz.func92,Tryz.ntmps92;go_wp2_with fail;refine (HH1 _).mono ?_;rintro e w2 ⟨rfl,rfl⟩;go_wp2_with fail;refine (HA _ _).mono ?_;rintro e w2 ⟨rfl,rfl⟩;go_wp2_with fail;refine (HWr _ _ _).mono ?_;rintro e w3 ⟨rfl,b3⟩;have HX3:=hO (HX.below b3);have HB3:Hid (Below w.heap.size w w3):=HB.trans (b3.mono HB.size);clear b3 HWr;obtain ⟨c0,c1,c2,c3,c4,c5,c6,c7,c8⟩:=HX3.cells;obtain ⟨f0,f1',f2',f3,f4,f5,f6,f7,f8⟩:=HX3.fz;go_wp2_with fail;exact zai rfl rfl rfl rfl rfl (zar HX3 tk0) ⟨by rw [HE.out];rfl,zac HB3 (nL _) tk0⟩
 have t1:((e1:Int)==(b:Int)+3)=false:=by rw [beq_eq_false_iff_ne];omega
 by_cases h2:b+3+6<e1
 ·have HE:Hid (zbY s b=.inr (b,30)):=by show zbY s b=_;rw [HU.out];unfold zgu;rw [iP (.inr (.inl h2))]
  have t2:(b:Int)+3+6<(e1:Int):=by omega
  clear HU HW;go_enter Tryz.func92,Tryz.ntmps92;go_wp2_with fail;refine (HH1 _).mono ?_;rintro e w2 ⟨rfl,rfl⟩;go_wp2_with fail;refine (HA _ _).mono ?_;rintro e w2 ⟨rfl,rfl⟩;go_wp2_with fail;refine (HWr _ _ _).mono ?_;rintro e w3 ⟨rfl,b3⟩;have HX3:=hO (HX.below b3);have HB3:Hid (Below w.heap.size w w3):=HB.trans (b3.mono HB.size);clear b3 HWr;obtain ⟨c0,c1,c2,c3,c4,c5,c6,c7,c8⟩:=HX3.cells;obtain ⟨f0,f1',f2',f3,f4,f5,f6,f7,f8⟩:=HX3.fz;go_wp2_with fail;exact zai rfl rfl rfl rfl rfl (zar HX3 tk0) ⟨by rw [HE.out];rfl,zac HB3 (nL _) tk0⟩
 have t2:¬(b:Int)+3+6<(e1:Int):=by omega
 by_cases h5:chr s e1=125
 ·have t5:(chr s e1 != 125)=false:=by rw [h5];rfl
  have HV:Hid (zbY s b=if zaF s (b+3) 16 (e1 - (b+3))<zaF s (b+3) 16 (e1 - (b+3))∨1114111<zaF s (b+3) 16 (e1 - (b+3)) then .inr (b,30) else .inl ⟨5,zaF s (b+3) 16 (e1 - (b+3)),b,e1+1,⟨#[]⟩,zaF s (b+3) 16 (e1 - (b+3)),0,0,0⟩):=by show zbY s b=_;rw [HU.out];unfold zgu;rw [iN (by omega)]
  have HW1:Hid (∀w,Cl 85 #[.string (s.extract (b+3) e1),.int .i64 16] w fun e' w'=>e'=.returned (.int .i64 (zaF s (b+3) 16 (e1 - (b+3))))/\w'=w):=HW (by omega) (by omega);clear HU HW h5;generalize zaF s (b+3) 16 (e1 - (b+3))=x1 at *;have y1:(0:Int)<=(b:Int)+3:=by omega
  have y2:(b:Int)+3<=(e1:Int):=by omega
  have y3:(e1:Int)<=(s.size:Int):=by omega
  by_cases g2:1114111<x1
  ·have HE:Hid (zbY s b=.inr (b,30)):=by show zbY s b=_;rw [HV.out,iP (.inr g2)]
   have v2:decide (1114111<x1)=true:=decide_eq_true g2;clear HV;go_enter Tryz.func92,Tryz.ntmps92;go_wp2_with fail;refine (HH1 _).mono ?_;rintro e w2 ⟨rfl,rfl⟩;go_wp2_with fail;refine (HA _ _).mono ?_;rintro e w2 ⟨rfl,rfl⟩;go_wp2_with fail;refine (HA _ _).mono ?_;rintro e w2 ⟨rfl,rfl⟩;clear HH1 HA;go_wp2_with fail;go_quiet ((go_at_call 85;with_reducible exact Calls.quiet_of (zm1 (HW1.out _))))
   have HXd:Hid (TX ((w.alloc (.cells #[.int .i64 0,.int .i64 0,.int .i64 0,.int .i64 0,.string ⟨#[]⟩,.int .u64 0,.int .u64 0,.int .u64 0,.int .u64 0] 79)).drewN nq) w.heap.size tk0):=HX.below (below_drewN (bR _ _) nq);have HBd:Hid (Below w.heap.size w ((w.alloc (.cells #[.int .i64 0,.int .i64 0,.int .i64 0,.int .i64 0,.string ⟨#[]⟩,.int .u64 0,.int .u64 0,.int .u64 0,.int .u64 0] 79)).drewN nq)):=below_drewN HB nq;clear HW1;generalize (w.alloc (.cells #[.int .i64 0,.int .i64 0,.int .i64 0,.int .i64 0,.string ⟨#[]⟩,.int .u64 0,.int .u64 0,.int .u64 0,.int .u64 0] 79)).drewN nq=w5 at *;go_wp2_with fail;refine (HWr _ _ _).mono ?_;rintro e w3 ⟨rfl,b3⟩;have HX3:=hO (HXd.below b3);have HB3:Hid (Below w.heap.size w w3):=HBd.trans (b3.mono HBd.size);clear b3 HWr;obtain ⟨c0,c1,c2,c3,c4,c5,c6,c7,c8⟩:=HX3.cells;obtain ⟨f0,f1',f2',f3,f4,f5,f6,f7,f8⟩:=HX3.fz;go_wp2_with fail;exact zai rfl rfl rfl rfl rfl (zar HX3 tk0) ⟨by rw [HE.out];rfl,zac HB3 (nL _) tk0⟩
  ·have HE:Hid (zbY s b=.inl ⟨5,x1,b,e1+1,⟨#[]⟩,x1,0,0,0⟩):=by show zbY s b=_;rw [HV.out,iN (by omega)]
   have v2:decide (1114111<x1)=false:=dF g2;have u9:IntKind.u64.wrap x1=x1:=by rw [IntKind.wrap_u64];omega
   clear HV HWr;go_enter Tryz.func92,Tryz.ntmps92;go_wp2_with fail;refine (HH1 _).mono ?_;rintro e w2 ⟨rfl,rfl⟩;go_wp2_with fail;refine (HA _ _).mono ?_;rintro e w2 ⟨rfl,rfl⟩;go_wp2_with fail;refine (HA _ _).mono ?_;rintro e w2 ⟨rfl,rfl⟩;clear HH1 HA;go_wp2_with fail;go_quiet ((go_at_call 85;with_reducible exact Calls.quiet_of (zm1 (HW1.out _))))
   have HXd:Hid (TX ((w.alloc (.cells #[.int .i64 0,.int .i64 0,.int .i64 0,.int .i64 0,.string ⟨#[]⟩,.int .u64 0,.int .u64 0,.int .u64 0,.int .u64 0] 79)).drewN nq) w.heap.size tk0):=HX.below (below_drewN (bR _ _) nq);have HBd:Hid (Below w.heap.size w ((w.alloc (.cells #[.int .i64 0,.int .i64 0,.int .i64 0,.int .i64 0,.string ⟨#[]⟩,.int .u64 0,.int .u64 0,.int .u64 0,.int .u64 0] 79)).drewN nq)):=below_drewN HB nq;clear HW1;generalize (w.alloc (.cells #[.int .i64 0,.int .i64 0,.int .i64 0,.int .i64 0,.string ⟨#[]⟩,.int .u64 0,.int .u64 0,.int .u64 0,.int .u64 0] 79)).drewN nq=w5 at *;obtain ⟨c0,c1,c2,c3,c4,c5,c6,c7,c8⟩:=HXd.cells;obtain ⟨q0,q1,q2,q3,q4,q5,q6,q7,q8⟩:=HXd.fz;go_wp2_with fail;exact zai (t:=⟨5,x1,b,e1+1,⟨#[]⟩,x1,0,0,0⟩) (p:=0) (e:=0) rfl rfl rfl rfl rfl (zar HXd.out ⟨5,x1,b,e1+1,⟨#[]⟩,x1,0,0,0⟩) ⟨by rw [HE.out];rfl,zac HBd (nL _) ⟨5,x1,b,e1+1,⟨#[]⟩,x1,0,0,0⟩⟩
 ·have t5:(chr s e1 != 125)=true:=by rw [bne,bF h5];rfl
  have HE:Hid (zbY s b=.inr (b,30)):=by show zbY s b=_;rw [HU.out];unfold zgu;rw [iP (.inr (.inr (.inr (.inr h5))))]
  clear HU HW h5;go_enter Tryz.func92,Tryz.ntmps92;go_wp2_with fail;refine (HH1 _).mono ?_;rintro e w2 ⟨rfl,rfl⟩;go_wp2_with fail;refine (HA _ _).mono ?_;rintro e w2 ⟨rfl,rfl⟩;go_wp2_with fail;refine (HA _ _).mono ?_;rintro e w2 ⟨rfl,rfl⟩;clear HH1 HA;go_wp2_with fail;refine (HWr _ _ _).mono ?_;rintro e w3 ⟨rfl,b3⟩;have HX3:=hO (HX.below b3);have HB3:Hid (Below w.heap.size w w3):=HB.trans (b3.mono HB.size);clear b3 HWr;obtain ⟨c0,c1,c2,c3,c4,c5,c6,c7,c8⟩:=HX3.cells;obtain ⟨f0,f1',f2',f3,f4,f5,f6,f7,f8⟩:=HX3.fz;go_wp2_with fail;exact zai rfl rfl rfl rfl rfl (zar HX3 tk0) ⟨by rw [HE.out];rfl,zac HB3 (nL _) tk0⟩
theorem zik (s:ByteArray) (b:Nat) (hs:s.size<=140737488355000) (hb:b+3<=s.size) (w:World):Calls Tryz.prog 92 #[.string s,.int .i64 b] w (rB w (zcs (zbY s b))):=by
 by_cases hd:chr s (zbT s (b+3))=45
 ·exact zgT s b _ hs hb rfl hd w
 ·exact zgd s b _ hs hb rfl hd w
theorem zbb (w w1 w2 w3 w4:World) (a b c:BitVec 256) (hb1:Below (w.alloc z4).heap.size (w.alloc z4) w1) (hb2:Below w1.heap.size w1 w2) (hb3:Below w2.heap.size w2 w3)
  (hb4:Below (((w3.alloc (c4 a)).alloc (c4 b)).alloc (c4 c)).heap.size (((w3.alloc (c4 a)).alloc (c4 b)).alloc (c4 c)) w4) :
  w.heap.size<w3.heap.size/\w3.heap.size+1+1<w4.heap.size/\Hid (Below w.heap.size w w4)/\Hid (Holds w4 w.heap.size 0#256)/\Hid (Holds w4 w3.heap.size a)/\Hid (Holds w4 (w3.heap.size+1) b)/\Hid (Holds w4 (w3.heap.size+1+1) c):=by
 have s1:=hb1.size;have s2:=hb2.size;have s3:=hb3.size;have s4:=hb4.size;rw [znq] at s1;rw [zlp] at s4 hb4;rw [znq] at hb1;have h13:Below (w.heap.size+1) (w.alloc z4) w3:=(hb1.trans (hb2.mono (by omega))).trans (hb3.mono (by omega));have h3:Below w.heap.size w w3:=(zaM w z4).trans (h13.mono (by omega));have h34:Below w3.heap.size w3 w4:=(zcd w3 (c4 a) (c4 b) (c4 c)).trans (hb4.mono (by omega));have e0:Holds w3 w.heap.size 0#256:=(Holds.zero w).below h13 (by omega);refine ⟨by omega,by omega,h3.trans (h34.mono (by omega)),e0.below h34 (by omega),?_,?_,?_⟩
 ·exact (((Holds.new w3 a).alloc (c4 b)).alloc (c4 c)).below hb4 (by omega)
 ·have h:=(Holds.new (w3.alloc (c4 a)) b).alloc (c4 c)
  rw [znq] at h;exact h.below hb4 (by omega)
 ·have h:=Holds.new ((w3.alloc (c4 a)).alloc (c4 b)) c
  rw [znr] at h;exact h.below hb4 (by omega)
theorem zlX (w:World) :
  Calls Tryz.prog 87 #[.int .i64 97] w (rB w (.tuple #[sv (spn 65 90 ||| spn 97 122),.int .i64 0])):=by
 have HH:=hO (Holds.zero w);have HR:=hO (zaM w z4);go_enter Tryz.func87,Tryz.ntmps87;go_wp2_with fail;refine (zad 97 122 _ (by omega) (by omega) (by omega)).mono ?_;rintro e w1 ⟨rfl,hb1⟩;go_wp2_with fail;refine (zad 65 90 _ (by omega) (by omega) (by omega)).mono ?_;rintro e w2 ⟨rfl,hb2⟩;go_wp2_with fail;refine (zad 48 57 _ (by omega) (by omega) (by omega)).mono ?_;rintro e w3 ⟨rfl,hb3⟩;go_wp2_with fail;refine (zas _ _ _).mono ?_;rintro e w4 ⟨rfl,hb4⟩;have hq:=zbb w w1 w2 w3 w4 (spn 97 122) (spn 65 90) (spn 48 57) hb1 hb2 hb3 hb4;clear hb1 hb2 hb3 hb4;obtain ⟨hl3,hl4,HR4,H0,H6,H7,H8⟩:=hq;obtain ⟨l0,c00,c01,c02,c03,f00,f01,f02,f03⟩:=H0.out;go_wp2
 have HRf:=HR4;refine bodyPost_ret (v:=.tuple #[sv ((spn 97 122 ||| spn 65 90)),.int .i64 0]) (by simp [results,Tryz.results87,go_sem, *]) rfl ⟨?_,?_⟩
 ·exact congrArg (fun q=>Ending.returned (.tuple #[sv q,.int .i64 0])) (BitVec.or_comm _ _)
 ·repeat (first | exact HRf.out | (refine Below.setCell ?_ (by first | omega | (simp <;> omega)) _) | (refine Below.alloc ?_ (by first | omega | (simp <;> omega)) _))
theorem zlY (w:World) :
  Calls Tryz.prog 87 #[.int .i64 99] w (rB w (.tuple #[sv (spn 0 31 ||| bt 127),.int .i64 0])):=by
 have HH:=hO (Holds.zero w);have HR:=hO (zaM w z4);go_enter Tryz.func87,Tryz.ntmps87;go_wp2_with fail;refine (zad 97 122 _ (by omega) (by omega) (by omega)).mono ?_;rintro e w1 ⟨rfl,hb1⟩;go_wp2_with fail;refine (zad 65 90 _ (by omega) (by omega) (by omega)).mono ?_;rintro e w2 ⟨rfl,hb2⟩;go_wp2_with fail;refine (zad 48 57 _ (by omega) (by omega) (by omega)).mono ?_;rintro e w3 ⟨rfl,hb3⟩;go_wp2_with fail;refine (zas _ _ _).mono ?_;rintro e w4 ⟨rfl,hb4⟩;have hq:=zbb w w1 w2 w3 w4 (spn 97 122) (spn 65 90) (spn 48 57) hb1 hb2 hb3 hb4;clear hb1 hb2 hb3 hb4;obtain ⟨hl3,hl4,HR4,H0,H6,H7,H8⟩:=hq;have HQ:Hid (Below (w4.heap.size+1) (w4.alloc (c4 (spn 97 122 ||| spn 65 90))) (w4.alloc (c4 (spn 97 122 ||| spn 65 90)))):=bR _ _;go_wp2_with fail;refine (zad 0 31 _ (by omega) (by omega) (by omega)).mono ?_;rintro e w5 ⟨rfl,hb⟩
 replace HQ:=(show Hid _ from HQ.trans (hb.mono (by first | exact HQ.size | (have h:=HQ.size;simp at h;omega) | simp)))
 go_wp2_with fail;refine (zbw _ 127 _ (by omega) (by omega)).mono ?_;rintro e w5 ⟨rfl,hb⟩
 replace HQ:=(show Hid _ from HQ.trans (hb.mono (by first | exact HQ.size | (have h:=HQ.size;simp at h;omega) | simp)))
 rw [show (127:Int).toNat=127 from rfl];have HR5:=hO ((HR4.alloc (by omega) (c4 (spn 97 122 ||| spn 65 90))).trans (HQ.mono (by omega)));obtain ⟨l0,c00,c01,c02,c03,f00,f01,f02,f03⟩:=(H0.alloc (c4 (spn 97 122 ||| spn 65 90))).below HQ (by have h:=H0.lt;omega);clear hb;go_wp2
 have HRf:=HR5;refine bodyPost_ret (v:=.tuple #[sv (spn 0 31 ||| bt 127),.int .i64 0]) (by simp [results,Tryz.results87,go_sem, *]) rfl ⟨?_,?_⟩
 ·rfl
 ·repeat (first | exact HRf.out | (refine Below.setCell ?_ (by first | omega | (simp <;> omega)) _) | (refine Below.alloc ?_ (by first | omega | (simp <;> omega)) _))
theorem zjQ (w:World) :
  Calls Tryz.prog 87 #[.int .i64 100] w (rB w (.tuple #[sv (spn 48 57),.int .i64 0])):=by
 have HH:=hO (Holds.zero w);have HR:=hO (zaM w z4);go_enter Tryz.func87,Tryz.ntmps87;go_wp2_with fail;refine (zad 97 122 _ (by omega) (by omega) (by omega)).mono ?_;rintro e w1 ⟨rfl,hb1⟩;go_wp2_with fail;refine (zad 65 90 _ (by omega) (by omega) (by omega)).mono ?_;rintro e w2 ⟨rfl,hb2⟩;go_wp2_with fail;refine (zad 48 57 _ (by omega) (by omega) (by omega)).mono ?_;rintro e w3 ⟨rfl,hb3⟩;go_wp2_with fail;refine (zas _ _ _).mono ?_;rintro e w4 ⟨rfl,hb4⟩;have hq:=zbb w w1 w2 w3 w4 (spn 97 122) (spn 65 90) (spn 48 57) hb1 hb2 hb3 hb4;clear hb1 hb2 hb3 hb4;obtain ⟨hl3,hl4,HR4,H0,H6,H7,H8⟩:=hq;obtain ⟨l0,c00,c01,c02,c03,f00,f01,f02,f03⟩:=H0.out;obtain ⟨l8,c80,c81,c82,c83,f80,f81,f82,f83⟩:=H8.out;go_wp2
 have HRf:=HR4;refine bodyPost_ret (v:=.tuple #[sv (spn 48 57),.int .i64 0]) (by simp [results,Tryz.results87,go_sem, *]) rfl ⟨?_,?_⟩
 ·rfl
 ·repeat (first | exact HRf.out | (refine Below.setCell ?_ (by first | omega | (simp <;> omega)) _) | (refine Below.alloc ?_ (by first | omega | (simp <;> omega)) _))
theorem zjR (w:World) :
  Calls Tryz.prog 87 #[.int .i64 103] w (rB w (.tuple #[sv (spn 33 126),.int .i64 0])):=by
 have HH:=hO (Holds.zero w);have HR:=hO (zaM w z4);go_enter Tryz.func87,Tryz.ntmps87;go_wp2_with fail;refine (zad 97 122 _ (by omega) (by omega) (by omega)).mono ?_;rintro e w1 ⟨rfl,hb1⟩;go_wp2_with fail;refine (zad 65 90 _ (by omega) (by omega) (by omega)).mono ?_;rintro e w2 ⟨rfl,hb2⟩;go_wp2_with fail;refine (zad 48 57 _ (by omega) (by omega) (by omega)).mono ?_;rintro e w3 ⟨rfl,hb3⟩;go_wp2_with fail;refine (zas _ _ _).mono ?_;rintro e w4 ⟨rfl,hb4⟩;have hq:=zbb w w1 w2 w3 w4 (spn 97 122) (spn 65 90) (spn 48 57) hb1 hb2 hb3 hb4;clear hb1 hb2 hb3 hb4;obtain ⟨hl3,hl4,HR4,H0,H6,H7,H8⟩:=hq;have HQ:Hid (Below (w4.heap.size+1) (w4.alloc (c4 (spn 97 122 ||| spn 65 90))) (w4.alloc (c4 (spn 97 122 ||| spn 65 90)))):=bR _ _;go_wp2_with fail;refine (zad 33 126 _ (by omega) (by omega) (by omega)).mono ?_;rintro e w5 ⟨rfl,hb⟩
 replace HQ:=(show Hid _ from HQ.trans (hb.mono (by first | exact HQ.size | (have h:=HQ.size;simp at h;omega) | simp)))
 have HR5:=hO ((HR4.alloc (by omega) (c4 (spn 97 122 ||| spn 65 90))).trans (HQ.mono (by omega)));obtain ⟨l0,c00,c01,c02,c03,f00,f01,f02,f03⟩:=(H0.alloc (c4 (spn 97 122 ||| spn 65 90))).below HQ (by have h:=H0.lt;omega);clear hb;go_wp2
 have HRf:=HR5;refine bodyPost_ret (v:=.tuple #[sv (spn 33 126),.int .i64 0]) (by simp [results,Tryz.results87,go_sem, *]) rfl ⟨?_,?_⟩
 ·rfl
 ·repeat (first | exact HRf.out | (refine Below.setCell ?_ (by first | omega | (simp <;> omega)) _) | (refine Below.alloc ?_ (by first | omega | (simp <;> omega)) _))
theorem zjS (w:World) :
  Calls Tryz.prog 87 #[.int .i64 108] w (rB w (.tuple #[sv (spn 97 122),.int .i64 0])):=by
 have HH:=hO (Holds.zero w);have HR:=hO (zaM w z4);go_enter Tryz.func87,Tryz.ntmps87;go_wp2_with fail;refine (zad 97 122 _ (by omega) (by omega) (by omega)).mono ?_;rintro e w1 ⟨rfl,hb1⟩;go_wp2_with fail;refine (zad 65 90 _ (by omega) (by omega) (by omega)).mono ?_;rintro e w2 ⟨rfl,hb2⟩;go_wp2_with fail;refine (zad 48 57 _ (by omega) (by omega) (by omega)).mono ?_;rintro e w3 ⟨rfl,hb3⟩;go_wp2_with fail;refine (zas _ _ _).mono ?_;rintro e w4 ⟨rfl,hb4⟩;have hq:=zbb w w1 w2 w3 w4 (spn 97 122) (spn 65 90) (spn 48 57) hb1 hb2 hb3 hb4;clear hb1 hb2 hb3 hb4;obtain ⟨hl3,hl4,HR4,H0,H6,H7,H8⟩:=hq;obtain ⟨l0,c00,c01,c02,c03,f00,f01,f02,f03⟩:=H0.out;obtain ⟨l6,c60,c61,c62,c63,f60,f61,f62,f63⟩:=H6.out;go_wp2
 have HRf:=HR4;refine bodyPost_ret (v:=.tuple #[sv (spn 97 122),.int .i64 0]) (by simp [results,Tryz.results87,go_sem, *]) rfl ⟨?_,?_⟩
 ·rfl
 ·repeat (first | exact HRf.out | (refine Below.setCell ?_ (by first | omega | (simp <;> omega)) _) | (refine Below.alloc ?_ (by first | omega | (simp <;> omega)) _))
theorem zjT (w:World) :
  Calls Tryz.prog 87 #[.int .i64 115] w (rB w (.tuple #[sv (spn 9 13 ||| bt 32),.int .i64 0])):=by
 have HH:=hO (Holds.zero w);have HR:=hO (zaM w z4);go_enter Tryz.func87,Tryz.ntmps87;go_wp2_with fail;refine (zad 97 122 _ (by omega) (by omega) (by omega)).mono ?_;rintro e w1 ⟨rfl,hb1⟩;go_wp2_with fail;refine (zad 65 90 _ (by omega) (by omega) (by omega)).mono ?_;rintro e w2 ⟨rfl,hb2⟩;go_wp2_with fail;refine (zad 48 57 _ (by omega) (by omega) (by omega)).mono ?_;rintro e w3 ⟨rfl,hb3⟩;go_wp2_with fail;refine (zas _ _ _).mono ?_;rintro e w4 ⟨rfl,hb4⟩;have hq:=zbb w w1 w2 w3 w4 (spn 97 122) (spn 65 90) (spn 48 57) hb1 hb2 hb3 hb4;clear hb1 hb2 hb3 hb4;obtain ⟨hl3,hl4,HR4,H0,H6,H7,H8⟩:=hq;have HQ:Hid (Below (w4.heap.size+1) (w4.alloc (c4 (spn 97 122 ||| spn 65 90))) (w4.alloc (c4 (spn 97 122 ||| spn 65 90)))):=bR _ _;go_wp2_with fail;refine (zad 9 13 _ (by omega) (by omega) (by omega)).mono ?_;rintro e w5 ⟨rfl,hb⟩
 replace HQ:=(show Hid _ from HQ.trans (hb.mono (by first | exact HQ.size | (have h:=HQ.size;simp at h;omega) | simp)))
 go_wp2_with fail;refine (zbw _ 32 _ (by omega) (by omega)).mono ?_;rintro e w5 ⟨rfl,hb⟩
 replace HQ:=(show Hid _ from HQ.trans (hb.mono (by first | exact HQ.size | (have h:=HQ.size;simp at h;omega) | simp)))
 rw [show (32:Int).toNat=32 from rfl];have HR5:=hO ((HR4.alloc (by omega) (c4 (spn 97 122 ||| spn 65 90))).trans (HQ.mono (by omega)));obtain ⟨l0,c00,c01,c02,c03,f00,f01,f02,f03⟩:=(H0.alloc (c4 (spn 97 122 ||| spn 65 90))).below HQ (by have h:=H0.lt;omega);clear hb;go_wp2
 have HRf:=HR5;refine bodyPost_ret (v:=.tuple #[sv (spn 9 13 ||| bt 32),.int .i64 0]) (by simp [results,Tryz.results87,go_sem, *]) rfl ⟨?_,?_⟩
 ·rfl
 ·repeat (first | exact HRf.out | (refine Below.setCell ?_ (by first | omega | (simp <;> omega)) _) | (refine Below.alloc ?_ (by first | omega | (simp <;> omega)) _))
theorem zjU (w:World) :
  Calls Tryz.prog 87 #[.int .i64 117] w (rB w (.tuple #[sv (spn 65 90),.int .i64 0])):=by
 have HH:=hO (Holds.zero w);have HR:=hO (zaM w z4);go_enter Tryz.func87,Tryz.ntmps87;go_wp2_with fail;refine (zad 97 122 _ (by omega) (by omega) (by omega)).mono ?_;rintro e w1 ⟨rfl,hb1⟩;go_wp2_with fail;refine (zad 65 90 _ (by omega) (by omega) (by omega)).mono ?_;rintro e w2 ⟨rfl,hb2⟩;go_wp2_with fail;refine (zad 48 57 _ (by omega) (by omega) (by omega)).mono ?_;rintro e w3 ⟨rfl,hb3⟩;go_wp2_with fail;refine (zas _ _ _).mono ?_;rintro e w4 ⟨rfl,hb4⟩;have hq:=zbb w w1 w2 w3 w4 (spn 97 122) (spn 65 90) (spn 48 57) hb1 hb2 hb3 hb4;clear hb1 hb2 hb3 hb4;obtain ⟨hl3,hl4,HR4,H0,H6,H7,H8⟩:=hq;obtain ⟨l0,c00,c01,c02,c03,f00,f01,f02,f03⟩:=H0.out;obtain ⟨l7,c70,c71,c72,c73,f70,f71,f72,f73⟩:=H7.out;go_wp2
 have HRf:=HR4;refine bodyPost_ret (v:=.tuple #[sv (spn 65 90),.int .i64 0]) (by simp [results,Tryz.results87,go_sem, *]) rfl ⟨?_,?_⟩
 ·rfl
 ·repeat (first | exact HRf.out | (refine Below.setCell ?_ (by first | omega | (simp <;> omega)) _) | (refine Below.alloc ?_ (by first | omega | (simp <;> omega)) _))
theorem zjV (w:World) :
  Calls Tryz.prog 87 #[.int .i64 119] w (rB w (.tuple #[sv (spn 65 90 ||| spn 97 122 ||| spn 48 57),.int .i64 0])):=by
 have HH:=hO (Holds.zero w);have HR:=hO (zaM w z4);go_enter Tryz.func87,Tryz.ntmps87;go_wp2_with fail;refine (zad 97 122 _ (by omega) (by omega) (by omega)).mono ?_;rintro e w1 ⟨rfl,hb1⟩;go_wp2_with fail;refine (zad 65 90 _ (by omega) (by omega) (by omega)).mono ?_;rintro e w2 ⟨rfl,hb2⟩;go_wp2_with fail;refine (zad 48 57 _ (by omega) (by omega) (by omega)).mono ?_;rintro e w3 ⟨rfl,hb3⟩;go_wp2_with fail;refine (zas _ _ _).mono ?_;rintro e w4 ⟨rfl,hb4⟩;have hq:=zbb w w1 w2 w3 w4 (spn 97 122) (spn 65 90) (spn 48 57) hb1 hb2 hb3 hb4;clear hb1 hb2 hb3 hb4;obtain ⟨hl3,hl4,HR4,H0,H6,H7,H8⟩:=hq;have HQ:Hid (Below (w4.heap.size+1) (w4.alloc (c4 (spn 97 122 ||| spn 65 90))) (w4.alloc (c4 (spn 97 122 ||| spn 65 90)))):=bR _ _;obtain ⟨l8,c80,c81,c82,c83,f80,f81,f82,f83⟩:=H8.out;go_wp2_with fail;refine (zas _ _ _).mono ?_;rintro e w5 ⟨rfl,hb⟩
 replace HQ:=(show Hid _ from HQ.trans (hb.mono (by first | exact HQ.size | (have h:=HQ.size;simp at h;omega) | simp)))
 have HR5:=hO ((HR4.alloc (by omega) (c4 (spn 97 122 ||| spn 65 90))).trans (HQ.mono (by omega)));obtain ⟨l0,c00,c01,c02,c03,f00,f01,f02,f03⟩:=(H0.alloc (c4 (spn 97 122 ||| spn 65 90))).below HQ (by have h:=H0.lt;omega);clear hb;go_wp2
 have HRf:=HR5;refine bodyPost_ret (v:=.tuple #[sv ((spn 97 122 ||| spn 65 90) ||| spn 48 57),.int .i64 0]) (by simp [results,Tryz.results87,go_sem, *]) rfl ⟨?_,?_⟩
 ·exact congrArg (fun q=>Ending.returned (.tuple #[sv q,.int .i64 0])) (by rw [BitVec.or_comm (spn 97 122)])
 ·repeat (first | exact HRf.out | (refine Below.setCell ?_ (by first | omega | (simp <;> omega)) _) | (refine Below.alloc ?_ (by first | omega | (simp <;> omega)) _))
theorem zjW (w:World) :
  Calls Tryz.prog 87 #[.int .i64 112] w (rB w (.tuple #[sv (spn 33 126 &&& ~~~ (spn 65 90 ||| spn 97 122 ||| spn 48 57)),.int .i64 0])):=by
 have HH:=hO (Holds.zero w);have HR:=hO (zaM w z4);go_enter Tryz.func87,Tryz.ntmps87;go_wp2_with fail;refine (zad 97 122 _ (by omega) (by omega) (by omega)).mono ?_;rintro e w1 ⟨rfl,hb1⟩;go_wp2_with fail;refine (zad 65 90 _ (by omega) (by omega) (by omega)).mono ?_;rintro e w2 ⟨rfl,hb2⟩;go_wp2_with fail;refine (zad 48 57 _ (by omega) (by omega) (by omega)).mono ?_;rintro e w3 ⟨rfl,hb3⟩;go_wp2_with fail;refine (zas _ _ _).mono ?_;rintro e w4 ⟨rfl,hb4⟩;have hq:=zbb w w1 w2 w3 w4 (spn 97 122) (spn 65 90) (spn 48 57) hb1 hb2 hb3 hb4;clear hb1 hb2 hb3 hb4;obtain ⟨hl3,hl4,HR4,H0,H6,H7,H8⟩:=hq;have HQ:Hid (Below (w4.heap.size+1) (w4.alloc (c4 (spn 97 122 ||| spn 65 90))) (w4.alloc (c4 (spn 97 122 ||| spn 65 90)))):=bR _ _;obtain ⟨l8,c80,c81,c82,c83,f80,f81,f82,f83⟩:=H8.out;go_wp2
 go_region_with (first | (go_at_call 90;refine (zad 33 126 _ (by omega) (by omega) (by omega)).mono ?_;rintro e w5 ⟨rfl,hb⟩;have hq2:Below (w4.heap.size+1) (w4.alloc (c4 (spn 97 122 ||| spn 65 90))) w5:=(by first | exact HQ.out.trans (hb.mono (by first | exact HQ.out.size | (have h:=HQ.out.size;simp at h;omega))) | exact HQ.out.drew.trans (hb.mono (by simp)));replace HQ:=(show Hid _ from hq2);obtain ⟨l0,c00,c01,c02,c03,f00,f01,f02,f03⟩:=(H0.out.alloc (c4 (spn 97 122 ||| spn 65 90))).below HQ.out (by have h:=H0.out.lt;omega);obtain ⟨l8,c80,c81,c82,c83,f80,f81,f82,f83⟩:=(H8.out.alloc (c4 (spn 97 122 ||| spn 65 90))).below HQ.out (by omega);obtain ⟨l9,c90,c91,c92,c93,f90,f91,f92,f93⟩:=(Holds.new w4 (spn 97 122 ||| spn 65 90)).below HQ.out (by omega)) | (go_at_call 88;refine (zas _ _ _).mono ?_;rintro e w5 ⟨rfl,hb⟩;have hq2:Below (w4.heap.size+1) (w4.alloc (c4 (spn 97 122 ||| spn 65 90))) w5:=(by first | exact HQ.out.trans (hb.mono (by first | exact HQ.out.size | (have h:=HQ.out.size;simp at h;omega))) | exact HQ.out.drew.trans (hb.mono (by simp)));replace HQ:=(show Hid _ from hq2);obtain ⟨l0,c00,c01,c02,c03,f00,f01,f02,f03⟩:=(H0.out.alloc (c4 (spn 97 122 ||| spn 65 90))).below HQ.out (by have h:=H0.out.lt;omega);obtain ⟨l8,c80,c81,c82,c83,f80,f81,f82,f83⟩:=(H8.out.alloc (c4 (spn 97 122 ||| spn 65 90))).below HQ.out (by omega);obtain ⟨l9,c90,c91,c92,c93,f90,f91,f92,f93⟩:=(Holds.new w4 (spn 97 122 ||| spn 65 90)).below HQ.out (by omega)) | (go_at_call 117;refine (ziR _ _ _).mono ?_;rintro e w5 ⟨rfl,hb⟩;have hq2:Below (w4.heap.size+1) (w4.alloc (c4 (spn 97 122 ||| spn 65 90))) w5:=(by first | exact HQ.out.trans (hb.mono (by first | exact HQ.out.size | (have h:=HQ.out.size;simp at h;omega))) | exact HQ.out.drew.trans (hb.mono (by simp)));replace HQ:=(show Hid _ from hq2);obtain ⟨l0,c00,c01,c02,c03,f00,f01,f02,f03⟩:=(H0.out.alloc (c4 (spn 97 122 ||| spn 65 90))).below HQ.out (by have h:=H0.out.lt;omega);obtain ⟨l8,c80,c81,c82,c83,f80,f81,f82,f83⟩:=(H8.out.alloc (c4 (spn 97 122 ||| spn 65 90))).below HQ.out (by omega);obtain ⟨l9,c90,c91,c92,c93,f90,f91,f92,f93⟩:=(Holds.new w4 (spn 97 122 ||| spn 65 90)).below HQ.out (by omega)))
 all_goals
  have HR5:=hO ((HR4.alloc (by omega) (c4 (spn 97 122 ||| spn 65 90))).trans (HQ.mono (by omega)));clear hb;go_wp2
  have HRf:=HR5;refine bodyPost_ret (v:=.tuple #[sv (spn 33 126 &&& ~~~ ((spn 97 122 ||| spn 65 90) ||| spn 48 57)),.int .i64 0]) (by simp [results,Tryz.results87,go_sem, *]) rfl ⟨?_,?_⟩
  ·exact congrArg (fun q=>Ending.returned (.tuple #[sv q,.int .i64 0])) (by rw [BitVec.or_comm (spn 97 122)])
  ·repeat (first | exact HRf.out | (refine Below.setCell ?_ (by first | omega | (simp <;> omega)) _) | (refine Below.alloc ?_ (by first | omega | (simp <;> omega)) _))
theorem zjX (w:World) :
  Calls Tryz.prog 87 #[.int .i64 120] w (rB w (.tuple #[sv (spn 48 57 ||| spn 65 70 ||| spn 97 102),.int .i64 0])):=by
 have HH:=hO (Holds.zero w);have HR:=hO (zaM w z4);go_enter Tryz.func87,Tryz.ntmps87;go_wp2_with fail;refine (zad 97 122 _ (by omega) (by omega) (by omega)).mono ?_;rintro e w1 ⟨rfl,hb1⟩;go_wp2_with fail;refine (zad 65 90 _ (by omega) (by omega) (by omega)).mono ?_;rintro e w2 ⟨rfl,hb2⟩;go_wp2_with fail;refine (zad 48 57 _ (by omega) (by omega) (by omega)).mono ?_;rintro e w3 ⟨rfl,hb3⟩;go_wp2_with fail;refine (zas _ _ _).mono ?_;rintro e w4 ⟨rfl,hb4⟩;have hq:=zbb w w1 w2 w3 w4 (spn 97 122) (spn 65 90) (spn 48 57) hb1 hb2 hb3 hb4;clear hb1 hb2 hb3 hb4;obtain ⟨hl3,hl4,HR4,H0,H6,H7,H8⟩:=hq;have HQ:Hid (Below (w4.heap.size+1) (w4.alloc (c4 (spn 97 122 ||| spn 65 90))) (w4.alloc (c4 (spn 97 122 ||| spn 65 90)))):=bR _ _;obtain ⟨l8,c80,c81,c82,c83,f80,f81,f82,f83⟩:=H8.out;go_wp2
 go_region_with (first | (go_at_call 90;refine (zad _ _ _ (by omega) (by omega) (by omega)).mono ?_;rintro e w5 ⟨rfl,hb⟩;have hq2:Below (w4.heap.size+1) (w4.alloc (c4 (spn 97 122 ||| spn 65 90))) w5:=(by first | exact HQ.out.trans (hb.mono (by first | exact HQ.out.size | (have h:=HQ.out.size;simp at h;omega))) | exact HQ.out.drew.trans (hb.mono (by simp)));replace HQ:=(show Hid _ from hq2);obtain ⟨l0,c00,c01,c02,c03,f00,f01,f02,f03⟩:=(H0.out.alloc (c4 (spn 97 122 ||| spn 65 90))).below HQ.out (by have h:=H0.out.lt;omega);obtain ⟨l8,c80,c81,c82,c83,f80,f81,f82,f83⟩:=(H8.out.alloc (c4 (spn 97 122 ||| spn 65 90))).below HQ.out (by omega)) | (go_at_call 88;refine (zas _ _ _).mono ?_;rintro e w5 ⟨rfl,hb⟩;have hq2:Below (w4.heap.size+1) (w4.alloc (c4 (spn 97 122 ||| spn 65 90))) w5:=(by first | exact HQ.out.trans (hb.mono (by first | exact HQ.out.size | (have h:=HQ.out.size;simp at h;omega))) | exact HQ.out.drew.trans (hb.mono (by simp)));replace HQ:=(show Hid _ from hq2);obtain ⟨l0,c00,c01,c02,c03,f00,f01,f02,f03⟩:=(H0.out.alloc (c4 (spn 97 122 ||| spn 65 90))).below HQ.out (by have h:=H0.out.lt;omega);obtain ⟨l8,c80,c81,c82,c83,f80,f81,f82,f83⟩:=(H8.out.alloc (c4 (spn 97 122 ||| spn 65 90))).below HQ.out (by omega)))
 all_goals
  have HR5:=hO ((HR4.alloc (by omega) (c4 (spn 97 122 ||| spn 65 90))).trans (HQ.mono (by omega)));clear hb;go_wp2
  have HRf:=HR5;refine bodyPost_ret (v:=.tuple #[sv (spn 48 57 ||| (spn 65 70 ||| spn 97 102)),.int .i64 0]) (by simp [results,Tryz.results87,go_sem, *]) rfl ⟨?_,?_⟩
  ·exact congrArg (fun q=>Ending.returned (.tuple #[sv q,.int .i64 0])) ((BitVec.or_assoc _ _ _).symm)
  ·repeat (first | exact HRf.out | (refine Below.setCell ?_ (by first | omega | (simp <;> omega)) _) | (refine Below.alloc ?_ (by first | omega | (simp <;> omega)) _))
theorem zfg (n:Int) (w:World) (hcap:¬(65<=n/\n<=90)) (h97:(n==97)=false) (h99:(n==99)=false) (h100:(n==100)=false) (h103:(n==103)=false) (h108:(n==108)=false) (h112:(n==112)=false) (h115:(n==115)=false) (h117:(n==117)=false) (h119:(n==119)=false) (h120:(n==120)=false) :
  Calls Tryz.prog 87 #[.int .i64 n] w (rB w (.tuple #[sv 0#256,.int .i64 10])):=by
 by_cases g0:65<=n
 ·have g1:¬n<=90:=fun h=>hcap ⟨g0,h⟩
  have d0:decide (65<=n)=true:=by simpa using g0
  have d1:decide (n<=90)=false:=by simpa using g1
  clear hcap;have HH:=hO (Holds.zero w);have HR:=hO (zaM w z4);go_enter Tryz.func87,Tryz.ntmps87;go_wp2_with fail;refine (zad 97 122 _ (by omega) (by omega) (by omega)).mono ?_;rintro e w1 ⟨rfl,hb1⟩;go_wp2_with fail;refine (zad 65 90 _ (by omega) (by omega) (by omega)).mono ?_;rintro e w2 ⟨rfl,hb2⟩;go_wp2_with fail;refine (zad 48 57 _ (by omega) (by omega) (by omega)).mono ?_;rintro e w3 ⟨rfl,hb3⟩;go_wp2_with fail;refine (zas _ _ _).mono ?_;rintro e w4 ⟨rfl,hb4⟩;have hq:=zbb w w1 w2 w3 w4 (spn 97 122) (spn 65 90) (spn 48 57) hb1 hb2 hb3 hb4;clear hb1 hb2 hb3 hb4;obtain ⟨hl3,hl4,HR4,H0,H6,H7,H8⟩:=hq;obtain ⟨l0,c0,c1,c2,c3,f0,f1,f2,f3⟩:=H0.out;go_wp2
  have HRf:=HR4;refine bodyPost_ret (v:=.tuple #[sv 0#256,.int .i64 10]) (by simp [results,Tryz.results87,go_sem,zak, *]) rfl ⟨rfl,?_⟩
  repeat (first | exact HRf.out | (refine Below.setCell ?_ (by first | omega | (simp <;> omega)) _) | (refine Below.alloc ?_ (by first | omega | (simp <;> omega)) _))
 ·have d0:decide (65<=n)=false:=by simpa using g0
  clear hcap;have HH:=hO (Holds.zero w);have HR:=hO (zaM w z4);go_enter Tryz.func87,Tryz.ntmps87;go_wp2_with fail;refine (zad 97 122 _ (by omega) (by omega) (by omega)).mono ?_;rintro e w1 ⟨rfl,hb1⟩;go_wp2_with fail;refine (zad 65 90 _ (by omega) (by omega) (by omega)).mono ?_;rintro e w2 ⟨rfl,hb2⟩;go_wp2_with fail;refine (zad 48 57 _ (by omega) (by omega) (by omega)).mono ?_;rintro e w3 ⟨rfl,hb3⟩;go_wp2_with fail;refine (zas _ _ _).mono ?_;rintro e w4 ⟨rfl,hb4⟩;have hq:=zbb w w1 w2 w3 w4 (spn 97 122) (spn 65 90) (spn 48 57) hb1 hb2 hb3 hb4;clear hb1 hb2 hb3 hb4;obtain ⟨hl3,hl4,HR4,H0,H6,H7,H8⟩:=hq;obtain ⟨l0,c0,c1,c2,c3,f0,f1,f2,f3⟩:=H0.out;go_wp2
  have HRf:=HR4;refine bodyPost_ret (v:=.tuple #[sv 0#256,.int .i64 10]) (by simp [results,Tryz.results87,go_sem,zak, *]) rfl ⟨rfl,?_⟩
  repeat (first | exact HRf.out | (refine Below.setCell ?_ (by first | omega | (simp <;> omega)) _) | (refine Below.alloc ?_ (by first | omega | (simp <;> omega)) _))
theorem zdT (n:Nat) (w:World) (hcap:¬(65<=n/\n<=90)) :
  Calls Tryz.prog 87 #[.int .i64 n] w (rB w (.tuple #[sv (sml n).1,.int .i64 (sml n).2])):=by
 by_cases h97:n=97
 ·subst h97;rw [znt];exact zlX w
 by_cases h99:n=99
 ·subst h99;rw [znu];exact zlY w
 by_cases h100:n=100
 ·subst h100;rw [ziS];exact zjQ w
 by_cases h103:n=103
 ·subst h103;rw [ziT];exact zjR w
 by_cases h108:n=108
 ·subst h108;rw [ziU];exact zjS w
 by_cases h112:n=112
 ·subst h112;rw [ziV];exact zjW w
 by_cases h115:n=115
 ·subst h115;rw [ziW];exact zjT w
 by_cases h117:n=117
 ·subst h117;rw [ziX];exact zjU w
 by_cases h119:n=119
 ·subst h119;rw [ziY];exact zjV w
 by_cases h120:n=120
 ·subst h120;rw [ziZ];exact zjX w
 rw [zfr n h97 h99 h100 h103 h108 h112 h115 h117 h119 h120];exact zfg n w (by omega) (bF (by omega)) (bF (by omega)) (bF (by omega)) (bF (by omega)) (bF (by omega)) (bF (by omega)) (bF (by omega)) (bF (by omega)) (bF (by omega)) (bF (by omega))
theorem zc1 (n:Int) (w:World) (hn:n<0) :
  Calls Tryz.prog 87 #[.int .i64 n] w (rB w (.tuple #[sv 0#256,.int .i64 10])) :=
 zfg n w (by omega) (bF (by omega)) (bF (by omega)) (bF (by omega)) (bF (by omega)) (bF (by omega)) (bF (by omega)) (bF (by omega)) (bF (by omega)) (bF (by omega)) (bF (by omega))
theorem zbs (n:Nat) (hn:n<256) (w:World) :
  Calls Tryz.prog 87 #[.int .i64 n] w (rB w (.tuple #[sv (cls n).1,.int .i64 (cls n).2])):=by
 by_cases hc:65<=n/\n<=90
 ·have HH:=hO (Holds.zero w)
  have HR:=hO (zaM w z4);have Hc:=hO hc;have g0:65<=(n:Int):=by omega
  have g1:(n:Int)<=90:=by omega
  have d0:decide (65<=(n:Int))=true:=by simpa using g0
  have d1:decide ((n:Int)<=90)=true:=by simpa using g1
  clear hc
  rcases zdN (n+32) with he | he
  ·have HE:=hO (zgS n Hc he)
   go_enter Tryz.func87,Tryz.ntmps87;go_wp2_with fail;rw [show (n:Int)+32=((n+32:Nat):Int) from by omega];refine (zdT (n+32) _ (by have:=Hc.out;omega)).mono ?_;rintro e w1 ⟨rfl,hb⟩;have hl:w.heap.size<w1.heap.size:=by have h:=hb.size;simp at h;omega
   have HR1:=hO (HR.trans (hb.mono (by simp)));have HH1:=hO (HH.below hb (by simp));rw [he];clear he hb HH HR;generalize (sml (n+32)).1=r at *;go_wp2_with fail;refine (zhp r _).mono ?_;rintro e w2 ⟨rfl,hb⟩;have HR2:=hO ((HR1.alloc (by omega) (c4 r)).trans (hb.mono (by simp;omega)));have hl2:w.heap.size<w2.heap.size:=by have h:=hb.size;simp at h;omega
   obtain ⟨l0,c0,c1,c2,c3,f0,f1,f2,f3⟩:=(HH1.alloc (c4 r)).below hb (by simp;omega);generalize hr : ~~~ r=q at *;clear hr hb;go_wp2
   rw [HE.out];refine bodyPost_ret (v:=.tuple #[sv q,.int .i64 0]) (by simp [results,Tryz.results87,go_sem, *]) rfl ⟨rfl,zcl HR2 (nL _) _⟩
  ·have HE:=hO (zjM n Hc he)
   go_enter Tryz.func87,Tryz.ntmps87;go_wp2_with fail;rw [show (n:Int)+32=((n+32:Nat):Int) from by omega];refine (zdT (n+32) _ (by have:=Hc.out;omega)).mono ?_;rintro e w1 ⟨rfl,hb⟩;have hl:w.heap.size<w1.heap.size:=by have h:=hb.size;simp at h;omega
   have HR1:=hO (HR.trans (hb.mono (by simp)));obtain ⟨l0,c0,c1,c2,c3,f0,f1,f2,f3⟩:=HH.below hb (by simp);rw [he];clear he hb HH HR;generalize (sml (n+32)).1=r at *;go_wp2
   rw [HE.out];refine bodyPost_ret (v:=.tuple #[sv 0#256,.int .i64 10]) (by simp [results,Tryz.results87,go_sem,zak, *]) rfl ⟨rfl,?_⟩
   repeat (first | exact HR1.out | (refine Below.setCell ?_ (by first | omega | (simp <;> omega)) _) | (refine Below.alloc ?_ (by first | omega | (simp <;> omega)) _))
 ·rw [zeH n hc]
  exact zdT n w hc
end Go.Proofs.YtkihfkcmcdiajaaGreatDoor
