/- DERIVED. Plain mathematics and walks, laid together (9). -/
import Derived.Deep.RegionLaw
import Derived.Laws.Bits64
import Derived.Test.YtkihfkcmcdiajaaGreatDoorPl08
set_option maxRecDepth 100000
set_option maxHeartbeats 8000000
namespace Go.Proofs.YtkihfkcmcdiajaaGreatDoor
open Go.RowKit
theorem zn7 (w:World) :
  Calls Tryz.prog 153 #[.int .u8 97] w (rB w (.tuple #[sv (spn 65 90 ||| spn 97 122),.int .i64 0])):=by
 have HH:=hO (Holds.zero w);have HR:=hO (zaL w z4);have HQ:Hid (Below (w.heap.size+1) (w.alloc z4) (w.alloc z4)):=bR _ _;go_enter Tryz.func153,Tryz.ntmps153;go_wp2_with fail;refine (zej _).mono ?_;rintro e w1 ⟨rfl,hb⟩
 replace HQ:=(show Hid _ from HQ.trans (hb.mono (by first | exact HQ.size | (have h:=HQ.size;simp at h;omega) | simp)))
 have HR1:=hO (HR.trans (HQ.mono (by omega)));obtain ⟨l0,c0,c1,c2,c3,f0,f1,f2,f3⟩:=HH.below HQ (by omega);generalize hr:spn 65 90 ||| spn 97 122=r;have Hr:=hO hr;clear hr;go_wp2
 exact bodyPost_ret (v:=.tuple #[sv r,.int .i64 0]) (by simp [results,Tryz.results153,go_sem, *]) rfl ⟨by rw [Hr.out],(((HR1.setCell (by simp) _).setCell (by simp) _).setCell (by simp) _).setCell (by simp) _⟩
theorem zn8 (w:World) :
  Calls Tryz.prog 153 #[.int .u8 99] w (rB w (.tuple #[sv (spn 0 31 ||| bt 127),.int .i64 0])):=by
 have HH:=hO (Holds.zero w);have HR:=hO (zaL w z4);have HQ:Hid (Below (w.heap.size+1) (w.alloc z4) (w.alloc z4)):=bR _ _;go_enter Tryz.func153,Tryz.ntmps153;go_wp2_with fail;refine (zaC 0 31 _ (by omega) (by omega) (by omega)).mono ?_;rintro e w1 ⟨rfl,hb⟩
 replace HQ:=(show Hid _ from HQ.trans (hb.mono (by first | exact HQ.size | (have h:=HQ.size;simp at h;omega) | simp)))
 go_wp2_with fail;refine (zfh _ 127 _ (by omega) (by omega)).mono ?_;rintro e w1 ⟨rfl,hb⟩
 replace HQ:=(show Hid _ from HQ.trans (hb.mono (by first | exact HQ.size | (have h:=HQ.size;simp at h;omega) | simp)))
 rw [show (127:Int).toNat=127 from rfl];have HR1:=hO (HR.trans (HQ.mono (by omega)));obtain ⟨l0,c0,c1,c2,c3,f0,f1,f2,f3⟩:=HH.below HQ (by omega);generalize hr:spn 0 31 ||| bt 127=r;have Hr:=hO hr;clear hr;go_wp2
 exact bodyPost_ret (v:=.tuple #[sv r,.int .i64 0]) (by simp [results,Tryz.results153,go_sem, *]) rfl ⟨by rw [Hr.out],(((HR1.setCell (by simp) _).setCell (by simp) _).setCell (by simp) _).setCell (by simp) _⟩
theorem zlB (w:World) :
  Calls Tryz.prog 153 #[.int .u8 100] w (rB w (.tuple #[sv (spn 48 57),.int .i64 0])):=by
 have HH:=hO (Holds.zero w);have HR:=hO (zaL w z4);have HQ:Hid (Below (w.heap.size+1) (w.alloc z4) (w.alloc z4)):=bR _ _;go_enter Tryz.func153,Tryz.ntmps153;go_wp2_with fail;refine (zaC 48 57 _ (by omega) (by omega) (by omega)).mono ?_;rintro e w1 ⟨rfl,hb⟩
 replace HQ:=(show Hid _ from HQ.trans (hb.mono (by first | exact HQ.size | (have h:=HQ.size;simp at h;omega) | simp)))
 have HR1:=hO (HR.trans (HQ.mono (by omega)));obtain ⟨l0,c0,c1,c2,c3,f0,f1,f2,f3⟩:=HH.below HQ (by omega);generalize hr:spn 48 57=r;have Hr:=hO hr;clear hr;go_wp2
 exact bodyPost_ret (v:=.tuple #[sv r,.int .i64 0]) (by simp [results,Tryz.results153,go_sem, *]) rfl ⟨by rw [Hr.out],(((HR1.setCell (by simp) _).setCell (by simp) _).setCell (by simp) _).setCell (by simp) _⟩
theorem zlC (w:World) :
  Calls Tryz.prog 153 #[.int .u8 103] w (rB w (.tuple #[sv (spn 33 126),.int .i64 0])):=by
 have HH:=hO (Holds.zero w);have HR:=hO (zaL w z4);have HQ:Hid (Below (w.heap.size+1) (w.alloc z4) (w.alloc z4)):=bR _ _;go_enter Tryz.func153,Tryz.ntmps153;go_wp2_with fail;refine (zaC 33 126 _ (by omega) (by omega) (by omega)).mono ?_;rintro e w1 ⟨rfl,hb⟩
 replace HQ:=(show Hid _ from HQ.trans (hb.mono (by first | exact HQ.size | (have h:=HQ.size;simp at h;omega) | simp)))
 have HR1:=hO (HR.trans (HQ.mono (by omega)));obtain ⟨l0,c0,c1,c2,c3,f0,f1,f2,f3⟩:=HH.below HQ (by omega);generalize hr:spn 33 126=r;have Hr:=hO hr;clear hr;go_wp2
 exact bodyPost_ret (v:=.tuple #[sv r,.int .i64 0]) (by simp [results,Tryz.results153,go_sem, *]) rfl ⟨by rw [Hr.out],(((HR1.setCell (by simp) _).setCell (by simp) _).setCell (by simp) _).setCell (by simp) _⟩
theorem zlD (w:World) :
  Calls Tryz.prog 153 #[.int .u8 108] w (rB w (.tuple #[sv (spn 97 122),.int .i64 0])):=by
 have HH:=hO (Holds.zero w);have HR:=hO (zaL w z4);have HQ:Hid (Below (w.heap.size+1) (w.alloc z4) (w.alloc z4)):=bR _ _;go_enter Tryz.func153,Tryz.ntmps153;go_wp2_with fail;refine (zaC 97 122 _ (by omega) (by omega) (by omega)).mono ?_;rintro e w1 ⟨rfl,hb⟩
 replace HQ:=(show Hid _ from HQ.trans (hb.mono (by first | exact HQ.size | (have h:=HQ.size;simp at h;omega) | simp)))
 have HR1:=hO (HR.trans (HQ.mono (by omega)));obtain ⟨l0,c0,c1,c2,c3,f0,f1,f2,f3⟩:=HH.below HQ (by omega);generalize hr:spn 97 122=r;have Hr:=hO hr;clear hr;go_wp2
 exact bodyPost_ret (v:=.tuple #[sv r,.int .i64 0]) (by simp [results,Tryz.results153,go_sem, *]) rfl ⟨by rw [Hr.out],(((HR1.setCell (by simp) _).setCell (by simp) _).setCell (by simp) _).setCell (by simp) _⟩
theorem zlE (w:World) :
  Calls Tryz.prog 153 #[.int .u8 112] w (rB w (.tuple #[sv (spn 33 126 &&& ~~~ (spn 65 90 ||| spn 97 122 ||| spn 48 57)),.int .i64 0])):=by
 have HH:=hO (Holds.zero w);have HR:=hO (zaL w z4);have HQ:Hid (Below (w.heap.size+1) (w.alloc z4) (w.alloc z4)):=bR _ _;go_enter Tryz.func153,Tryz.ntmps153;go_wp2_with fail;refine (zaC 33 126 _ (by omega) (by omega) (by omega)).mono ?_;rintro e w1 ⟨rfl,hb⟩
 replace HQ:=(show Hid _ from HQ.trans (hb.mono (by first | exact HQ.size | (have h:=HQ.size;simp at h;omega) | simp)))
 go_wp2_with fail;refine (zcf _).mono ?_;rintro e w1 ⟨rfl,hb⟩
 replace HQ:=(show Hid _ from HQ.trans (hb.mono (by first | exact HQ.size | (have h:=HQ.size;simp at h;omega) | simp)))
 go_wp2_with fail;refine (zlb _ _ _).mono ?_;rintro e w1 ⟨rfl,hb⟩
 replace HQ:=(show Hid _ from HQ.trans (hb.mono (by first | exact HQ.size | (have h:=HQ.size;simp at h;omega) | simp)))
 have HR1:=hO (HR.trans (HQ.mono (by omega)));obtain ⟨l0,c0,c1,c2,c3,f0,f1,f2,f3⟩:=HH.below HQ (by omega);generalize hr:spn 33 126 &&& ~~~ (spn 65 90 ||| spn 97 122 ||| spn 48 57)=r;have Hr:=hO hr;clear hr;go_wp2
 exact bodyPost_ret (v:=.tuple #[sv r,.int .i64 0]) (by simp [results,Tryz.results153,go_sem, *]) rfl ⟨by rw [Hr.out],(((HR1.setCell (by simp) _).setCell (by simp) _).setCell (by simp) _).setCell (by simp) _⟩
theorem zlF (w:World) :
  Calls Tryz.prog 153 #[.int .u8 115] w (rB w (.tuple #[sv (spn 9 13 ||| bt 32),.int .i64 0])):=by
 have HH:=hO (Holds.zero w);have HR:=hO (zaL w z4);have HQ:Hid (Below (w.heap.size+1) (w.alloc z4) (w.alloc z4)):=bR _ _;go_enter Tryz.func153,Tryz.ntmps153;go_wp2_with fail;refine (zaC 9 13 _ (by omega) (by omega) (by omega)).mono ?_;rintro e w1 ⟨rfl,hb⟩
 replace HQ:=(show Hid _ from HQ.trans (hb.mono (by first | exact HQ.size | (have h:=HQ.size;simp at h;omega) | simp)))
 go_wp2_with fail;refine (zfh _ 32 _ (by omega) (by omega)).mono ?_;rintro e w1 ⟨rfl,hb⟩
 replace HQ:=(show Hid _ from HQ.trans (hb.mono (by first | exact HQ.size | (have h:=HQ.size;simp at h;omega) | simp)))
 rw [show (32:Int).toNat=32 from rfl];have HR1:=hO (HR.trans (HQ.mono (by omega)));obtain ⟨l0,c0,c1,c2,c3,f0,f1,f2,f3⟩:=HH.below HQ (by omega);generalize hr:spn 9 13 ||| bt 32=r;have Hr:=hO hr;clear hr;go_wp2
 exact bodyPost_ret (v:=.tuple #[sv r,.int .i64 0]) (by simp [results,Tryz.results153,go_sem, *]) rfl ⟨by rw [Hr.out],(((HR1.setCell (by simp) _).setCell (by simp) _).setCell (by simp) _).setCell (by simp) _⟩
theorem zlG (w:World) :
  Calls Tryz.prog 153 #[.int .u8 117] w (rB w (.tuple #[sv (spn 65 90),.int .i64 0])):=by
 have HH:=hO (Holds.zero w);have HR:=hO (zaL w z4);have HQ:Hid (Below (w.heap.size+1) (w.alloc z4) (w.alloc z4)):=bR _ _;go_enter Tryz.func153,Tryz.ntmps153;go_wp2_with fail;refine (zaC 65 90 _ (by omega) (by omega) (by omega)).mono ?_;rintro e w1 ⟨rfl,hb⟩
 replace HQ:=(show Hid _ from HQ.trans (hb.mono (by first | exact HQ.size | (have h:=HQ.size;simp at h;omega) | simp)))
 have HR1:=hO (HR.trans (HQ.mono (by omega)));obtain ⟨l0,c0,c1,c2,c3,f0,f1,f2,f3⟩:=HH.below HQ (by omega);generalize hr:spn 65 90=r;have Hr:=hO hr;clear hr;go_wp2
 exact bodyPost_ret (v:=.tuple #[sv r,.int .i64 0]) (by simp [results,Tryz.results153,go_sem, *]) rfl ⟨by rw [Hr.out],(((HR1.setCell (by simp) _).setCell (by simp) _).setCell (by simp) _).setCell (by simp) _⟩
theorem zlH (w:World) :
  Calls Tryz.prog 153 #[.int .u8 119] w (rB w (.tuple #[sv (spn 65 90 ||| spn 97 122 ||| spn 48 57),.int .i64 0])):=by
 have HH:=hO (Holds.zero w);have HR:=hO (zaL w z4);have HQ:Hid (Below (w.heap.size+1) (w.alloc z4) (w.alloc z4)):=bR _ _;go_enter Tryz.func153,Tryz.ntmps153;go_wp2_with fail;refine (zcf _).mono ?_;rintro e w1 ⟨rfl,hb⟩
 replace HQ:=(show Hid _ from HQ.trans (hb.mono (by first | exact HQ.size | (have h:=HQ.size;simp at h;omega) | simp)))
 have HR1:=hO (HR.trans (HQ.mono (by omega)));obtain ⟨l0,c0,c1,c2,c3,f0,f1,f2,f3⟩:=HH.below HQ (by omega);generalize hr:spn 65 90 ||| spn 97 122 ||| spn 48 57=r;have Hr:=hO hr;clear hr;go_wp2
 exact bodyPost_ret (v:=.tuple #[sv r,.int .i64 0]) (by simp [results,Tryz.results153,go_sem, *]) rfl ⟨by rw [Hr.out],(((HR1.setCell (by simp) _).setCell (by simp) _).setCell (by simp) _).setCell (by simp) _⟩
theorem zlI (w:World) :
  Calls Tryz.prog 153 #[.int .u8 120] w (rB w (.tuple #[sv (spn 48 57 ||| spn 65 70 ||| spn 97 102),.int .i64 0])):=by
 have HH:=hO (Holds.zero w);have HR:=hO (zaL w z4);have HQ:Hid (Below (w.heap.size+1) (w.alloc z4) (w.alloc z4)):=bR _ _;go_enter Tryz.func153,Tryz.ntmps153;go_wp2_with fail;refine (zaC 48 57 _ (by omega) (by omega) (by omega)).mono ?_;rintro e w1 ⟨rfl,hb⟩
 replace HQ:=(show Hid _ from HQ.trans (hb.mono (by first | exact HQ.size | (have h:=HQ.size;simp at h;omega) | simp)))
 go_wp2_with fail;refine (zcU _ 65 70 _ (by omega) (by omega) (by omega)).mono ?_;rintro e w1 ⟨rfl,hb⟩
 replace HQ:=(show Hid _ from HQ.trans (hb.mono (by first | exact HQ.size | (have h:=HQ.size;simp at h;omega) | simp)))
 go_wp2_with fail;refine (zcU _ 97 102 _ (by omega) (by omega) (by omega)).mono ?_;rintro e w1 ⟨rfl,hb⟩
 replace HQ:=(show Hid _ from HQ.trans (hb.mono (by first | exact HQ.size | (have h:=HQ.size;simp at h;omega) | simp)))
 have HR1:=hO (HR.trans (HQ.mono (by omega)));obtain ⟨l0,c0,c1,c2,c3,f0,f1,f2,f3⟩:=HH.below HQ (by omega);generalize hr:spn 48 57 ||| spn 65 70 ||| spn 97 102=r;have Hr:=hO hr;clear hr;go_wp2
 exact bodyPost_ret (v:=.tuple #[sv r,.int .i64 0]) (by simp [results,Tryz.results153,go_sem, *]) rfl ⟨by rw [Hr.out],(((HR1.setCell (by simp) _).setCell (by simp) _).setCell (by simp) _).setCell (by simp) _⟩
theorem zjB (n:Int) (w:World) (h97:(n==97)=false) (h99:(n==99)=false) (h100:(n==100)=false) (h103:(n==103)=false) (h108:(n==108)=false) (h112:(n==112)=false) (h115:(n==115)=false) (h117:(n==117)=false) (h119:(n==119)=false) (h120:(n==120)=false) :
  Calls Tryz.prog 153 #[.int .u8 n] w (rB w (.tuple #[sv 0#256,.int .i64 10])):=by
 have HR:=hO (zaL w z4);go_enter Tryz.func153,Tryz.ntmps153;go_wp2
 exact bodyPost_ret (v:=.tuple #[sv 0#256,.int .i64 10]) (by simp [results,Tryz.results153,go_sem,zak]) rfl ⟨rfl,HR.out⟩
theorem zez (n:Nat) (w:World) :
  Calls Tryz.prog 153 #[.int .u8 n] w (rB w (.tuple #[sv (sml n).1,.int .i64 (sml n).2])):=by
 by_cases h97:n=97
 ·subst h97;rw [znd];exact zn7 w
 by_cases h99:n=99
 ·subst h99;rw [zne];exact zn8 w
 by_cases h100:n=100
 ·subst h100;rw [ziJ];exact zlB w
 by_cases h103:n=103
 ·subst h103;rw [ziK];exact zlC w
 by_cases h108:n=108
 ·subst h108;rw [ziL];exact zlD w
 by_cases h112:n=112
 ·subst h112;rw [ziM];exact zlE w
 by_cases h115:n=115
 ·subst h115;rw [ziN];exact zlF w
 by_cases h117:n=117
 ·subst h117;rw [ziO];exact zlG w
 by_cases h119:n=119
 ·subst h119;rw [ziP];exact zlH w
 by_cases h120:n=120
 ·subst h120;rw [ziQ];exact zlI w
 rw [zfl n h97 h99 h100 h103 h108 h112 h115 h117 h119 h120];exact zjB n w (bF (by omega)) (bF (by omega)) (bF (by omega)) (bF (by omega)) (bF (by omega)) (bF (by omega)) (bF (by omega)) (bF (by omega)) (bF (by omega)) (bF (by omega))
theorem zeA (n:Nat) (h:¬(65<=n/\n<=90)):cls n=sml n:=by unfold cls;rw [iN h]
theorem zgQ (n:Nat) (h:65<=n/\n<=90) (he:(sml (n+32)).2=0):cls n=(~~~ (sml (n+32)).1,0):=by unfold cls;rw [iP h,iP he]
theorem zjC (n:Nat) (h:65<=n/\n<=90) (he:(sml (n+32)).2=10):cls n=(0#256,10):=by
 unfold cls;rw [iP h,iN (by omega),he]
theorem zcm {B:Nat} {w w':World} {b:Nat} (h:Below B w w') (hb:B<=b) (y:BitVec 256):Below B w (zm9 w' b y) :=
 (((h.setCell hb _).setCell hb _).setCell hb _).setCell hb _
theorem zeB (n:Nat) (hn:n<256) (w:World) :
  Calls Tryz.prog 136 #[.int .u8 n] w (rB w (.tuple #[sv (cls n).1,.int .i64 (cls n).2])):=by
 have HH:=hO (Holds.zero w);have HR:=hO (zaL w z4);have hw8:IntKind.i64.wrap (n:Int)=(n:Int):=by rw [wI];omega
 by_cases hc:65<=n/\n<=90
 ·have hcap:znc (n:Int)=true:=by simp [znc];omega
  have hn1:(n:Int)<=90:=by omega
  have Hc:=hO hc;clear hc
  rcases zdJ (n+32) with he | he
  ·have HE:=hO (zgQ n Hc he)
   go_enter Tryz.func136,Tryz.ntmps136;go_wp2_with fail;refine (zco _ _).mono ?_;rintro e w1 ⟨rfl,rfl⟩;go_wp2_with fail;rw [show (n:Int)+32=((n+32:Nat):Int) from by omega];refine (zez (n+32) _).mono ?_;rintro e w1 ⟨rfl,hb⟩;have hl:w.heap.size<w1.heap.size:=by have h:=hb.size;simp at h;omega
   have HR1:=hO (HR.trans (hb.mono (by simp)));have HH1:=hO (HH.below hb (by simp));rw [he];clear he hb HH HR;generalize (sml (n+32)).1=r at *;go_wp2_with fail;refine (zgv r _).mono ?_;rintro e w2 ⟨rfl,hb⟩;have HR2:=hO ((HR1.alloc (by omega) (c4 r)).trans (hb.mono (by simp;omega)));have hl2:w.heap.size<w2.heap.size:=by have h:=hb.size;simp at h;omega
   obtain ⟨l0,c0,c1,c2,c3,f0,f1,f2,f3⟩:=(HH1.alloc (c4 r)).below hb (by simp;omega);generalize hr : ~~~ r=q at *;clear hr hb;go_wp2
   rw [HE.out];refine bodyPost_ret (v:=.tuple #[sv q,.int .i64 0]) (by simp [results,Tryz.results136,go_sem, *]) rfl ⟨rfl,zcm HR2 (nL _) _⟩
  ·have HE:=hO (zjC n Hc he)
   go_enter Tryz.func136,Tryz.ntmps136;go_wp2_with fail;refine (zco _ _).mono ?_;rintro e w1 ⟨rfl,rfl⟩;go_wp2_with fail;rw [show (n:Int)+32=((n+32:Nat):Int) from by omega];refine (zez (n+32) _).mono ?_;rintro e w1 ⟨rfl,hb⟩;have hl:w.heap.size<w1.heap.size:=by have h:=hb.size;simp at h;omega
   have HR1:=hO (HR.trans (hb.mono (by simp)));obtain ⟨l0,c0,c1,c2,c3,f0,f1,f2,f3⟩:=HH.below hb (by simp);rw [he];clear he hb HH HR;generalize (sml (n+32)).1=r at *;go_wp2
   rw [HE.out];refine bodyPost_ret (v:=.tuple #[sv 0#256,.int .i64 10]) (by simp [results,Tryz.results136,go_sem,zak, *]) rfl ⟨rfl,?_⟩
   repeat (first | exact HR1.out | (refine Below.setCell ?_ (by first | omega | (simp <;> omega)) _) | (refine Below.alloc ?_ (by first | omega | (simp <;> omega)) _))
 ·have hcap:znc (n:Int)=false:=by simp [znc];omega
  have HE:=hO (zeA n hc);clear hc;go_enter Tryz.func136,Tryz.ntmps136;go_wp2_with fail;refine (zco _ _).mono ?_;rintro e w1 ⟨rfl,rfl⟩;go_wp2_with fail;refine (zez n _).mono ?_;rintro e w1 ⟨rfl,hb⟩;have hl:w.heap.size<w1.heap.size:=by have h:=hb.size;simp at h;omega
  have HR1:=hO (HR.trans (hb.mono (by simp)));obtain ⟨l0,c0,c1,c2,c3,f0,f1,f2,f3⟩:=HH.below hb (by simp);clear hb HH HR;generalize sml n=rq at *;obtain ⟨r,q⟩:=rq;dsimp only;go_wp2
  refine bodyPost_ret (v:=.tuple #[sv r,.int .i64 q]) (by simp [results,Tryz.results136,go_sem, *]) rfl ⟨by rw [HE.out],zcm HR1 (nL _) _⟩
theorem below_drewN {B:Nat} {a w:World} (h:Below B a w) (n:Nat):Below B a (w.drewN n):=by
 induction n with
 | zero=>exact h
 | succ n ih=>exact ih.drew
theorem zmO {f:FuncId} {args:Array Value} {v:Value} {w:World} (h:Calls Tryz.prog f args w (rU w v)):Calls Tryz.prog f args w fun e w'=>e=.returned v/\∃n,w'=w.drewN n:=h.mono fun _ _ ⟨h1,h2⟩=>⟨h1,0,h2⟩
theorem zjD (s:ByteArray):∀m i,i<=hx7 s i m/\hx7 s i m<=i+m/\(i<=s.size->hx7 s i m<=s.size):=by
 intro m
 induction m with
 | zero=>intro i;exact ⟨nL _,nL _,fun q=>q⟩
 | succ m ih =>
  intro i;rw [hx7]
  split
  ·next h =>
   have h1:=zea h;obtain ⟨a,b,c⟩:=ih (i+1);exact ⟨by omega,by omega,fun _=>c (by omega)⟩
  ·exact ⟨nL _,by omega,fun q=>q⟩
theorem zjE (s:ByteArray):∀m i k,i<=k->k<hx7 s i m->0<=zaG (chr s k):=by
 intro m
 induction m with
 | zero=>intro i k h1 h2;rw [hx7] at h2;omega
 | succ m ih =>
  intro i k h1 h2;rw [hx7] at h2
  split at h2
  ·next h =>
   by_cases e:k=i
   ·subst e;exact h
   ·exact ih (i+1) k (by omega) h2
  ·omega
theorem zjF (s:ByteArray) (i:Nat) (base:Int) (hb:0<=base):∀k,(∀j,j<k->0<=zaG (chr s (i+j)))->0<=zaD s i base k:=by
 intro k
 induction k with
 | zero=>intro _;exact Int.le_refl _
 | succ k ih =>
  intro h;rw [zaD];have h1:=Int.mul_nonneg (ih (fun j hj=>h j (by omega))) hb;have h2:=h k (by omega);omega
def zgr (s:ByteArray) (b f1 e1 f2 e2:Nat):Sum Tk (Nat×Int) :=
 if e1=f1∨f1+6<e1∨e2=f2∨f2+6<e2∨chr s e2≠125 then .inr (b,30)
 else if zaD s f2 16 (e2 - f2)<zaD s f1 16 (e1 - f1)∨1114111<zaD s f2 16 (e2 - f2) then .inr (b,30)
 else .inl ⟨5,zaD s f1 16 (e1 - f1),b,e2+1,⟨#[]⟩,zaD s f2 16 (e2 - f2),0,0,0⟩
theorem ptsR_y {s:ByteArray} {b:Nat} (h:chr s (zbV s (b+3))=45):zbZ s b=zgr s b (b+3) (zbV s (b+3)) (zbV s (b+3)+1) (zbV s (zbV s (b+3)+1)):=by unfold zbZ zgr;simp only [h,if_true]
theorem ptsR_n {s:ByteArray} {b:Nat} (h:¬chr s (zbV s (b+3))=45):zbZ s b=zgr s b (b+3) (zbV s (b+3)) (b+3) (zbV s (b+3)):=by unfold zbZ zgr;simp only [iN h]
theorem zgR (s:ByteArray) (b e1:Nat) (hs:s.size<=140737488355000) (hb:b+3<=s.size) (he1:e1=zbV s (b+3)) (hd:chr s e1=45) (w:World):Calls Tryz.prog 92 #[.string s,.int .i64 b] w (rB w (zcr (zbZ s b))):=by
 have HWr:Hid (∀i e w,Cl 58 #[.int .i64 i,.int .i64 e] w fun e' w'=>e'=.returned (.tuple #[tkG tk0,.int .i64 i,.int .i64 e])/\Below w.heap.size w w'):=fun i e w=>zbO i e w
 have HA:Hid (∀k w,Cl 55 #[.string s,.int .i64 ((k:Nat):Int)] w (rU w (.int .i64 (chr s k)))):=fun k w=>zaZ s k w
 have HH1:Hid (∀w,Cl 120 #[.string s,.int .i64 ((b:Int)+3)] w (rU w (.int .i64 e1))):=fun w=>by
  have h:=zgA s (b+3) (by omega) (by omega) w;rw [<-he1] at h;exact h
 have hbd1:=zjD s 7 (b+3);rw [show hx7 s (b+3) 7=e1 from he1.symm] at hbd1;have t0:(chr s e1==45)=true:=by rw [hd];rfl
 have h1s:e1<s.size:=zaz (by omega);obtain ⟨e2,he2⟩:∃e2,e2=zbV s (e1+1):=⟨_,rfl⟩;have HH2:Hid (∀w,Cl 120 #[.string s,.int .i64 ((e1:Int)+1)] w (rU w (.int .i64 e2))):=fun w=>by
  have h:=zgA s (e1+1) (by omega) (by omega) w;rw [<-he2] at h;exact h
 have hbd2:=zjD s 7 (e1+1);rw [show hx7 s (e1+1) 7=e2 from he2.symm] at hbd2;have HU:Hid (zbZ s b=zgr s b (b+3) e1 (e1+1) e2):=by
  show zbZ s b=_
  rw [ptsR_y (by rw [<-he1];exact hd),<-he1,<-he2]
 have hnn:0<=zaD s (e1+1) 16 (e2 - (e1+1)):=zjF s _ 16 (by omega) _ (fun k hk=>zjE s 7 (e1+1) _ (by omega) (by rw [show hx7 s (e1+1) 7=e2 from he2.symm];omega));have hl1:=hbd1.2.2 hb;have hl2:=hbd2.2.2 (by omega);have hg1:=hbd1.1;have hg2:=hbd2.1;clear hbd1 hbd2 he1 he2 hd;have HW:Hid (∀f e w,f<=e->e<=f+6->e<=s.size->Cl 85 #[.string (s.extract f e),.int .i64 16] w fun e' w'=>e'=.returned (.int .i64 (zaD s f 16 (e - f)))/\w'=w):=fun f e w h1 h2 h3=>by
  have hsz:(s.extract f e).size=e - f:=by rw [ByteArray.size_extract];omega
  have h:=zdi (s.extract f e) 16 (by omega) (by omega) w;rw [hsz,zcp (by omega) (e - f) (by omega)] at h;exact h
 have HX:Hid (TX (w.alloc (tkO tk0)) w.heap.size tk0):=TX.new w tk0;have HB:Hid (Below w.heap.size w (w.alloc (tkO tk0))):=zaa w _;by_cases h1:e1=b+3
 ·have HE:Hid (zbZ s b=.inr (b,30)):=by show zbZ s b=_;rw [HU.out];unfold zgr;rw [iP (.inl h1)]
  have t1:((e1:Int)==(b:Int)+3)=true:=by rw [beq_iff_eq];omega
  clear HU HW h1;go_enter Tryz.func92,Tryz.ntmps92;go_wp2_with fail;refine (HH1 _).mono ?_;rintro e w2 ⟨rfl,rfl⟩;go_wp2_with fail;refine (HA _ _).mono ?_;rintro e w2 ⟨rfl,rfl⟩;go_wp2_with fail;refine (HH2 _).mono ?_;rintro e w2 ⟨rfl,rfl⟩;go_wp2_with fail;refine (HWr _ _ _).mono ?_;rintro e w3 ⟨rfl,b3⟩;have HX3:=hO (HX.below b3);have HB3:Hid (Below w.heap.size w w3):=HB.trans (b3.mono HB.size);clear b3 HWr HX HB;obtain ⟨c0,c1,c2,c3,c4,c5,c6,c7,c8⟩:=HX3.cells;obtain ⟨f0,f1',f2',f3,f4,f5,f6,f7,f8⟩:=HX3.fz;go_wp2_with fail;exact zah rfl rfl rfl rfl rfl (zar HX3 tk0) ⟨by rw [HE.out];rfl,zac HB3 (nL _) tk0⟩
 have t1:((e1:Int)==(b:Int)+3)=false:=by rw [beq_eq_false_iff_ne];omega
 by_cases h2:b+3+6<e1
 ·have HE:Hid (zbZ s b=.inr (b,30)):=by show zbZ s b=_;rw [HU.out];unfold zgr;rw [iP (.inr (.inl h2))]
  have t2:(b:Int)+3+6<(e1:Int):=by omega
  clear HU HW;go_enter Tryz.func92,Tryz.ntmps92;go_wp2_with fail;refine (HH1 _).mono ?_;rintro e w2 ⟨rfl,rfl⟩;go_wp2_with fail;refine (HA _ _).mono ?_;rintro e w2 ⟨rfl,rfl⟩;go_wp2_with fail;refine (HH2 _).mono ?_;rintro e w2 ⟨rfl,rfl⟩;go_wp2_with fail;refine (HWr _ _ _).mono ?_;rintro e w3 ⟨rfl,b3⟩;have HX3:=hO (HX.below b3);have HB3:Hid (Below w.heap.size w w3):=HB.trans (b3.mono HB.size);clear b3 HWr HX HB;obtain ⟨c0,c1,c2,c3,c4,c5,c6,c7,c8⟩:=HX3.cells;obtain ⟨f0,f1',f2',f3,f4,f5,f6,f7,f8⟩:=HX3.fz;go_wp2_with fail;exact zah rfl rfl rfl rfl rfl (zar HX3 tk0) ⟨by rw [HE.out];rfl,zac HB3 (nL _) tk0⟩
 have t2:¬(b:Int)+3+6<(e1:Int):=by omega
 by_cases h3:e2=e1+1
 ·have HE:Hid (zbZ s b=.inr (b,30)):=by show zbZ s b=_;rw [HU.out];unfold zgr;rw [iP (.inr (.inr (.inl h3)))]
  have t3:((e2:Int)==(e1:Int)+1)=true:=by rw [beq_iff_eq];omega
  clear HU HW h3;go_enter Tryz.func92,Tryz.ntmps92;go_wp2_with fail;refine (HH1 _).mono ?_;rintro e w2 ⟨rfl,rfl⟩;go_wp2_with fail;refine (HA _ _).mono ?_;rintro e w2 ⟨rfl,rfl⟩;go_wp2_with fail;refine (HH2 _).mono ?_;rintro e w2 ⟨rfl,rfl⟩;go_wp2_with fail;refine (HWr _ _ _).mono ?_;rintro e w3 ⟨rfl,b3⟩;have HX3:=hO (HX.below b3);have HB3:Hid (Below w.heap.size w w3):=HB.trans (b3.mono HB.size);clear b3 HWr HX HB;obtain ⟨c0,c1,c2,c3,c4,c5,c6,c7,c8⟩:=HX3.cells;obtain ⟨f0,f1',f2',f3,f4,f5,f6,f7,f8⟩:=HX3.fz;go_wp2_with fail;exact zah rfl rfl rfl rfl rfl (zar HX3 tk0) ⟨by rw [HE.out];rfl,zac HB3 (nL _) tk0⟩
 have t3:((e2:Int)==(e1:Int)+1)=false:=by rw [beq_eq_false_iff_ne];omega
 by_cases h4:e1+1+6<e2
 ·have HE:Hid (zbZ s b=.inr (b,30)):=by show zbZ s b=_;rw [HU.out];unfold zgr;rw [iP (.inr (.inr (.inr (.inl h4))))]
  have t4:(e1:Int)+1+6<(e2:Int):=by omega
  clear HU HW;go_enter Tryz.func92,Tryz.ntmps92;go_wp2_with fail;refine (HH1 _).mono ?_;rintro e w2 ⟨rfl,rfl⟩;go_wp2_with fail;refine (HA _ _).mono ?_;rintro e w2 ⟨rfl,rfl⟩;go_wp2_with fail;refine (HH2 _).mono ?_;rintro e w2 ⟨rfl,rfl⟩;go_wp2_with fail;refine (HWr _ _ _).mono ?_;rintro e w3 ⟨rfl,b3⟩;have HX3:=hO (HX.below b3);have HB3:Hid (Below w.heap.size w w3):=HB.trans (b3.mono HB.size);clear b3 HWr HX HB;obtain ⟨c0,c1,c2,c3,c4,c5,c6,c7,c8⟩:=HX3.cells;obtain ⟨f0,f1',f2',f3,f4,f5,f6,f7,f8⟩:=HX3.fz;go_wp2_with fail;exact zah rfl rfl rfl rfl rfl (zar HX3 tk0) ⟨by rw [HE.out];rfl,zac HB3 (nL _) tk0⟩
 have t4:¬(e1:Int)+1+6<(e2:Int):=by omega
 by_cases h5:chr s e2=125
 ·have t5:(chr s e2 != 125)=false:=by rw [h5];rfl
  have HV:Hid (zbZ s b=if zaD s (e1+1) 16 (e2 - (e1+1))<zaD s (b+3) 16 (e1 - (b+3))∨1114111<zaD s (e1+1) 16 (e2 - (e1+1)) then .inr (b,30) else .inl ⟨5,zaD s (b+3) 16 (e1 - (b+3)),b,e2+1,⟨#[]⟩,zaD s (e1+1) 16 (e2 - (e1+1)),0,0,0⟩):=by show zbZ s b=_;rw [HU.out];unfold zgr;rw [iN (by omega)]
  have HW1:Hid (∀w,Cl 85 #[.string (s.extract (b+3) e1),.int .i64 16] w fun e' w'=>e'=.returned (.int .i64 (zaD s (b+3) 16 (e1 - (b+3))))/\w'=w):=fun w=>HW (b+3) e1 w (by omega) (by omega) (by omega)
  have HW2:Hid (∀w,Cl 85 #[.string (s.extract (e1+1) e2),.int .i64 16] w fun e' w'=>e'=.returned (.int .i64 (zaD s (e1+1) 16 (e2 - (e1+1))))/\w'=w):=fun w=>HW (e1+1) e2 w (by omega) (by omega) (by omega)
  clear HU HW h5;generalize zaD s (b+3) 16 (e1 - (b+3))=x1 at *;generalize zaD s (e1+1) 16 (e2 - (e1+1))=x2 at *;have y1:(0:Int)<=(b:Int)+3:=by omega
  have y2:(b:Int)+3<=(e1:Int):=by omega
  have y3:(e1:Int)<=(s.size:Int):=by omega
  have y4:(0:Int)<=(e1:Int)+1:=by omega
  have y5:(e1:Int)+1<=(e2:Int):=by omega
  have y6:(e2:Int)<=(s.size:Int):=by omega
  by_cases g1:x2<x1
  ·have HE:Hid (zbZ s b=.inr (b,30)):=by show zbZ s b=_;rw [HV.out,iP (.inl g1)]
   have v1:decide (x2<x1)=true:=decide_eq_true g1;clear HV;go_enter Tryz.func92,Tryz.ntmps92;go_wp2_with fail;refine (HH1 _).mono ?_;rintro e w2 ⟨rfl,rfl⟩;go_wp2_with fail;refine (HA _ _).mono ?_;rintro e w2 ⟨rfl,rfl⟩;go_wp2_with fail;refine (HH2 _).mono ?_;rintro e w2 ⟨rfl,rfl⟩;go_wp2_with fail;refine (HA _ _).mono ?_;rintro e w2 ⟨rfl,rfl⟩;clear HH1 HH2 HA;go_wp2_with fail;go_quiet ((go_at_call 85;first | with_reducible exact Calls.quiet_of (zmO (HW1.out _)) | with_reducible exact Calls.quiet_of (zmO (HW2.out _))))
   have HXd:Hid (TX ((w.alloc (.cells #[.int .i64 0,.int .i64 0,.int .i64 0,.int .i64 0,.string ⟨#[]⟩,.int .u64 0,.int .u64 0,.int .u64 0,.int .u64 0] 79)).drewN nq) w.heap.size tk0):=HX.below (below_drewN (bR _ _) nq);have HBd:Hid (Below w.heap.size w ((w.alloc (.cells #[.int .i64 0,.int .i64 0,.int .i64 0,.int .i64 0,.string ⟨#[]⟩,.int .u64 0,.int .u64 0,.int .u64 0,.int .u64 0] 79)).drewN nq)):=below_drewN HB nq;clear HW1 HW2;generalize (w.alloc (.cells #[.int .i64 0,.int .i64 0,.int .i64 0,.int .i64 0,.string ⟨#[]⟩,.int .u64 0,.int .u64 0,.int .u64 0,.int .u64 0] 79)).drewN nq=w5 at *;go_wp2_with fail;refine (HWr _ _ _).mono ?_;rintro e w3 ⟨rfl,b3⟩;have HX3:=hO (HXd.below b3);have HB3:Hid (Below w.heap.size w w3):=HBd.trans (b3.mono HBd.size);clear b3 HWr HX HB HXd HBd;obtain ⟨c0,c1,c2,c3,c4,c5,c6,c7,c8⟩:=HX3.cells;obtain ⟨f0,f1',f2',f3,f4,f5,f6,f7,f8⟩:=HX3.fz;go_wp2_with fail;exact zah rfl rfl rfl rfl rfl (zar HX3 tk0) ⟨by rw [HE.out];rfl,zac HB3 (nL _) tk0⟩
  have v1:decide (x2<x1)=false:=dF g1;by_cases g2:1114111<x2
  ·have HE:Hid (zbZ s b=.inr (b,30)):=by show zbZ s b=_;rw [HV.out,iP (.inr g2)]
   have v2:decide (1114111<x2)=true:=decide_eq_true g2;clear HV;go_enter Tryz.func92,Tryz.ntmps92;go_wp2_with fail;refine (HH1 _).mono ?_;rintro e w2 ⟨rfl,rfl⟩;go_wp2_with fail;refine (HA _ _).mono ?_;rintro e w2 ⟨rfl,rfl⟩;go_wp2_with fail;refine (HH2 _).mono ?_;rintro e w2 ⟨rfl,rfl⟩;go_wp2_with fail;refine (HA _ _).mono ?_;rintro e w2 ⟨rfl,rfl⟩;clear HH1 HH2 HA;go_wp2_with fail;go_quiet ((go_at_call 85;first | with_reducible exact Calls.quiet_of (zmO (HW1.out _)) | with_reducible exact Calls.quiet_of (zmO (HW2.out _))))
   have HXd:Hid (TX ((w.alloc (.cells #[.int .i64 0,.int .i64 0,.int .i64 0,.int .i64 0,.string ⟨#[]⟩,.int .u64 0,.int .u64 0,.int .u64 0,.int .u64 0] 79)).drewN nq) w.heap.size tk0):=HX.below (below_drewN (bR _ _) nq);have HBd:Hid (Below w.heap.size w ((w.alloc (.cells #[.int .i64 0,.int .i64 0,.int .i64 0,.int .i64 0,.string ⟨#[]⟩,.int .u64 0,.int .u64 0,.int .u64 0,.int .u64 0] 79)).drewN nq)):=below_drewN HB nq;clear HW1 HW2;generalize (w.alloc (.cells #[.int .i64 0,.int .i64 0,.int .i64 0,.int .i64 0,.string ⟨#[]⟩,.int .u64 0,.int .u64 0,.int .u64 0,.int .u64 0] 79)).drewN nq=w5 at *;go_wp2_with fail;refine (HWr _ _ _).mono ?_;rintro e w3 ⟨rfl,b3⟩;have HX3:=hO (HXd.below b3);have HB3:Hid (Below w.heap.size w w3):=HBd.trans (b3.mono HBd.size);clear b3 HWr HX HB HXd HBd;obtain ⟨c0,c1,c2,c3,c4,c5,c6,c7,c8⟩:=HX3.cells;obtain ⟨f0,f1',f2',f3,f4,f5,f6,f7,f8⟩:=HX3.fz;go_wp2_with fail;exact zah rfl rfl rfl rfl rfl (zar HX3 tk0) ⟨by rw [HE.out];rfl,zac HB3 (nL _) tk0⟩
  ·have HE:Hid (zbZ s b=.inl ⟨5,x1,b,e2+1,⟨#[]⟩,x2,0,0,0⟩):=by show zbZ s b=_;rw [HV.out,iN (by omega)]
   have v2:decide (1114111<x2)=false:=dF g2;have u9:IntKind.u64.wrap x2=x2:=by rw [IntKind.wrap_u64];omega
   clear HV HWr;go_enter Tryz.func92,Tryz.ntmps92;go_wp2_with fail;refine (HH1 _).mono ?_;rintro e w2 ⟨rfl,rfl⟩;go_wp2_with fail;refine (HA _ _).mono ?_;rintro e w2 ⟨rfl,rfl⟩;go_wp2_with fail;refine (HH2 _).mono ?_;rintro e w2 ⟨rfl,rfl⟩;go_wp2_with fail;refine (HA _ _).mono ?_;rintro e w2 ⟨rfl,rfl⟩;clear HH1 HH2 HA;go_wp2_with fail;go_quiet ((go_at_call 85;first | with_reducible exact Calls.quiet_of (zmO (HW1.out _)) | with_reducible exact Calls.quiet_of (zmO (HW2.out _))))
   have HXd:Hid (TX ((w.alloc (.cells #[.int .i64 0,.int .i64 0,.int .i64 0,.int .i64 0,.string ⟨#[]⟩,.int .u64 0,.int .u64 0,.int .u64 0,.int .u64 0] 79)).drewN nq) w.heap.size tk0):=HX.below (below_drewN (bR _ _) nq);have HBd:Hid (Below w.heap.size w ((w.alloc (.cells #[.int .i64 0,.int .i64 0,.int .i64 0,.int .i64 0,.string ⟨#[]⟩,.int .u64 0,.int .u64 0,.int .u64 0,.int .u64 0] 79)).drewN nq)):=below_drewN HB nq;clear HW1 HW2;generalize (w.alloc (.cells #[.int .i64 0,.int .i64 0,.int .i64 0,.int .i64 0,.string ⟨#[]⟩,.int .u64 0,.int .u64 0,.int .u64 0,.int .u64 0] 79)).drewN nq=w5 at *;obtain ⟨c0,c1,c2,c3,c4,c5,c6,c7,c8⟩:=HXd.cells;obtain ⟨q0,q1,q2,q3,q4,q5,q6,q7,q8⟩:=HXd.fz;go_wp2_with fail;exact zah (t:=⟨5,x1,b,e2+1,⟨#[]⟩,x2,0,0,0⟩) (p:=0) (e:=0) rfl rfl rfl rfl rfl (zar HXd.out ⟨5,x1,b,e2+1,⟨#[]⟩,x2,0,0,0⟩) ⟨by rw [HE.out];rfl,zac HBd (nL _) ⟨5,x1,b,e2+1,⟨#[]⟩,x2,0,0,0⟩⟩
 ·have t5:(chr s e2 != 125)=true:=by rw [bne,bF h5];rfl
  have HE:Hid (zbZ s b=.inr (b,30)):=by show zbZ s b=_;rw [HU.out];unfold zgr;rw [iP (.inr (.inr (.inr (.inr h5))))]
  clear HU HW h5;go_enter Tryz.func92,Tryz.ntmps92;go_wp2_with fail;refine (HH1 _).mono ?_;rintro e w2 ⟨rfl,rfl⟩;go_wp2_with fail;refine (HA _ _).mono ?_;rintro e w2 ⟨rfl,rfl⟩;go_wp2_with fail;refine (HH2 _).mono ?_;rintro e w2 ⟨rfl,rfl⟩;go_wp2_with fail;refine (HA _ _).mono ?_;rintro e w2 ⟨rfl,rfl⟩;go_wp2_with fail;refine (HWr _ _ _).mono ?_;rintro e w3 ⟨rfl,b3⟩;have HX3:=hO (HX.below b3);have HB3:Hid (Below w.heap.size w w3):=HB.trans (b3.mono HB.size);clear b3 HWr HX HB;obtain ⟨c0,c1,c2,c3,c4,c5,c6,c7,c8⟩:=HX3.cells;obtain ⟨f0,f1',f2',f3,f4,f5,f6,f7,f8⟩:=HX3.fz;go_wp2_with fail;exact zah rfl rfl rfl rfl rfl (zar HX3 tk0) ⟨by rw [HE.out];rfl,zac HB3 (nL _) tk0⟩
theorem zga (s:ByteArray) (b e1:Nat) (hs:s.size<=140737488355000) (hb:b+3<=s.size) (he1:e1=zbV s (b+3)) (hd:¬chr s e1=45) (w:World):Calls Tryz.prog 92 #[.string s,.int .i64 b] w (rB w (zcr (zbZ s b))):=by
 have HWr:Hid (∀i e w,Cl 58 #[.int .i64 i,.int .i64 e] w fun e' w'=>e'=.returned (.tuple #[tkG tk0,.int .i64 i,.int .i64 e])/\Below w.heap.size w w'):=fun i e w=>zbO i e w
 have HA:Hid (∀k w,Cl 55 #[.string s,.int .i64 ((k:Nat):Int)] w (rU w (.int .i64 (chr s k)))):=fun k w=>zaZ s k w
 have HH1:Hid (∀w,Cl 120 #[.string s,.int .i64 ((b:Int)+3)] w (rU w (.int .i64 e1))):=fun w=>by
  have h:=zgA s (b+3) (by omega) (by omega) w;rw [<-he1] at h;exact h
 have hbd1:=zjD s 7 (b+3);rw [show hx7 s (b+3) 7=e1 from he1.symm] at hbd1;have t0:(chr s e1==45)=false:=bF hd;have HU:Hid (zbZ s b=zgr s b (b+3) e1 (b+3) e1):=by
  show zbZ s b=_
  rw [ptsR_n (by rw [<-he1];exact hd),<-he1]
 have hnn:0<=zaD s (b+3) 16 (e1 - (b+3)):=zjF s _ 16 (by omega) _ (fun k hk=>zjE s 7 (b+3) _ (by omega) (by rw [show hx7 s (b+3) 7=e1 from he1.symm];omega));have hl1:=hbd1.2.2 hb;have hg1:=hbd1.1;clear hbd1 he1 hd;have HW:Hid (b+3<=e1->e1<=b+3+6->∀w,Cl 85 #[.string (s.extract (b+3) e1),.int .i64 16] w fun e' w'=>e'=.returned (.int .i64 (zaD s (b+3) 16 (e1 - (b+3))))/\w'=w):=fun h1 h2 w=>by
  have hsz:(s.extract (b+3) e1).size=e1 - (b+3):=by rw [ByteArray.size_extract];omega
  have h:=zdi (s.extract (b+3) e1) 16 (by omega) (by omega) w;rw [hsz,zcp (by omega) (e1 - (b+3)) (by omega)] at h;exact h
 have HX:Hid (TX (w.alloc (tkO tk0)) w.heap.size tk0):=TX.new w tk0;have HB:Hid (Below w.heap.size w (w.alloc (tkO tk0))):=zaa w _;by_cases h1:e1=b+3
 ·have HE:Hid (zbZ s b=.inr (b,30)):=by show zbZ s b=_;rw [HU.out];unfold zgr;rw [iP (.inl h1)]
  have t1:((e1:Int)==(b:Int)+3)=true:=by rw [beq_iff_eq];omega
  clear HU HW h1;go_enter Tryz.func92,Tryz.ntmps92;go_wp2_with fail;refine (HH1 _).mono ?_;rintro e w2 ⟨rfl,rfl⟩;go_wp2_with fail;refine (HA _ _).mono ?_;rintro e w2 ⟨rfl,rfl⟩;go_wp2_with fail;refine (HWr _ _ _).mono ?_;rintro e w3 ⟨rfl,b3⟩;have HX3:=hO (HX.below b3);have HB3:Hid (Below w.heap.size w w3):=HB.trans (b3.mono HB.size);clear b3 HWr;obtain ⟨c0,c1,c2,c3,c4,c5,c6,c7,c8⟩:=HX3.cells;obtain ⟨f0,f1',f2',f3,f4,f5,f6,f7,f8⟩:=HX3.fz;go_wp2_with fail;exact zah rfl rfl rfl rfl rfl (zar HX3 tk0) ⟨by rw [HE.out];rfl,zac HB3 (nL _) tk0⟩
 have t1:((e1:Int)==(b:Int)+3)=false:=by rw [beq_eq_false_iff_ne];omega
 by_cases h2:b+3+6<e1
 ·have HE:Hid (zbZ s b=.inr (b,30)):=by show zbZ s b=_;rw [HU.out];unfold zgr;rw [iP (.inr (.inl h2))]
  have t2:(b:Int)+3+6<(e1:Int):=by omega
  clear HU HW;go_enter Tryz.func92,Tryz.ntmps92;go_wp2_with fail;refine (HH1 _).mono ?_;rintro e w2 ⟨rfl,rfl⟩;go_wp2_with fail;refine (HA _ _).mono ?_;rintro e w2 ⟨rfl,rfl⟩;go_wp2_with fail;refine (HWr _ _ _).mono ?_;rintro e w3 ⟨rfl,b3⟩;have HX3:=hO (HX.below b3);have HB3:Hid (Below w.heap.size w w3):=HB.trans (b3.mono HB.size);clear b3 HWr;obtain ⟨c0,c1,c2,c3,c4,c5,c6,c7,c8⟩:=HX3.cells;obtain ⟨f0,f1',f2',f3,f4,f5,f6,f7,f8⟩:=HX3.fz;go_wp2_with fail;exact zah rfl rfl rfl rfl rfl (zar HX3 tk0) ⟨by rw [HE.out];rfl,zac HB3 (nL _) tk0⟩
 have t2:¬(b:Int)+3+6<(e1:Int):=by omega
 by_cases h5:chr s e1=125
 ·have t5:(chr s e1 != 125)=false:=by rw [h5];rfl
  have HV:Hid (zbZ s b=if zaD s (b+3) 16 (e1 - (b+3))<zaD s (b+3) 16 (e1 - (b+3))∨1114111<zaD s (b+3) 16 (e1 - (b+3)) then .inr (b,30) else .inl ⟨5,zaD s (b+3) 16 (e1 - (b+3)),b,e1+1,⟨#[]⟩,zaD s (b+3) 16 (e1 - (b+3)),0,0,0⟩):=by show zbZ s b=_;rw [HU.out];unfold zgr;rw [iN (by omega)]
  have HW1:Hid (∀w,Cl 85 #[.string (s.extract (b+3) e1),.int .i64 16] w fun e' w'=>e'=.returned (.int .i64 (zaD s (b+3) 16 (e1 - (b+3))))/\w'=w):=HW (by omega) (by omega);clear HU HW h5;generalize zaD s (b+3) 16 (e1 - (b+3))=x1 at *;have y1:(0:Int)<=(b:Int)+3:=by omega
  have y2:(b:Int)+3<=(e1:Int):=by omega
  have y3:(e1:Int)<=(s.size:Int):=by omega
  by_cases g2:1114111<x1
  ·have HE:Hid (zbZ s b=.inr (b,30)):=by show zbZ s b=_;rw [HV.out,iP (.inr g2)]
   have v2:decide (1114111<x1)=true:=decide_eq_true g2;clear HV;go_enter Tryz.func92,Tryz.ntmps92;go_wp2_with fail;refine (HH1 _).mono ?_;rintro e w2 ⟨rfl,rfl⟩;go_wp2_with fail;refine (HA _ _).mono ?_;rintro e w2 ⟨rfl,rfl⟩;go_wp2_with fail;refine (HA _ _).mono ?_;rintro e w2 ⟨rfl,rfl⟩;clear HH1 HA;go_wp2_with fail;go_quiet ((go_at_call 85;with_reducible exact Calls.quiet_of (zmO (HW1.out _))))
   have HXd:Hid (TX ((w.alloc (.cells #[.int .i64 0,.int .i64 0,.int .i64 0,.int .i64 0,.string ⟨#[]⟩,.int .u64 0,.int .u64 0,.int .u64 0,.int .u64 0] 79)).drewN nq) w.heap.size tk0):=HX.below (below_drewN (bR _ _) nq);have HBd:Hid (Below w.heap.size w ((w.alloc (.cells #[.int .i64 0,.int .i64 0,.int .i64 0,.int .i64 0,.string ⟨#[]⟩,.int .u64 0,.int .u64 0,.int .u64 0,.int .u64 0] 79)).drewN nq)):=below_drewN HB nq;clear HW1;generalize (w.alloc (.cells #[.int .i64 0,.int .i64 0,.int .i64 0,.int .i64 0,.string ⟨#[]⟩,.int .u64 0,.int .u64 0,.int .u64 0,.int .u64 0] 79)).drewN nq=w5 at *;go_wp2_with fail;refine (HWr _ _ _).mono ?_;rintro e w3 ⟨rfl,b3⟩;have HX3:=hO (HXd.below b3);have HB3:Hid (Below w.heap.size w w3):=HBd.trans (b3.mono HBd.size);clear b3 HWr;obtain ⟨c0,c1,c2,c3,c4,c5,c6,c7,c8⟩:=HX3.cells;obtain ⟨f0,f1',f2',f3,f4,f5,f6,f7,f8⟩:=HX3.fz;go_wp2_with fail;exact zah rfl rfl rfl rfl rfl (zar HX3 tk0) ⟨by rw [HE.out];rfl,zac HB3 (nL _) tk0⟩
  ·have HE:Hid (zbZ s b=.inl ⟨5,x1,b,e1+1,⟨#[]⟩,x1,0,0,0⟩):=by show zbZ s b=_;rw [HV.out,iN (by omega)]
   have v2:decide (1114111<x1)=false:=dF g2;have u9:IntKind.u64.wrap x1=x1:=by rw [IntKind.wrap_u64];omega
   clear HV HWr;go_enter Tryz.func92,Tryz.ntmps92;go_wp2_with fail;refine (HH1 _).mono ?_;rintro e w2 ⟨rfl,rfl⟩;go_wp2_with fail;refine (HA _ _).mono ?_;rintro e w2 ⟨rfl,rfl⟩;go_wp2_with fail;refine (HA _ _).mono ?_;rintro e w2 ⟨rfl,rfl⟩;clear HH1 HA;go_wp2_with fail;go_quiet ((go_at_call 85;with_reducible exact Calls.quiet_of (zmO (HW1.out _))))
   have HXd:Hid (TX ((w.alloc (.cells #[.int .i64 0,.int .i64 0,.int .i64 0,.int .i64 0,.string ⟨#[]⟩,.int .u64 0,.int .u64 0,.int .u64 0,.int .u64 0] 79)).drewN nq) w.heap.size tk0):=HX.below (below_drewN (bR _ _) nq);have HBd:Hid (Below w.heap.size w ((w.alloc (.cells #[.int .i64 0,.int .i64 0,.int .i64 0,.int .i64 0,.string ⟨#[]⟩,.int .u64 0,.int .u64 0,.int .u64 0,.int .u64 0] 79)).drewN nq)):=below_drewN HB nq;clear HW1;generalize (w.alloc (.cells #[.int .i64 0,.int .i64 0,.int .i64 0,.int .i64 0,.string ⟨#[]⟩,.int .u64 0,.int .u64 0,.int .u64 0,.int .u64 0] 79)).drewN nq=w5 at *;obtain ⟨c0,c1,c2,c3,c4,c5,c6,c7,c8⟩:=HXd.cells;obtain ⟨q0,q1,q2,q3,q4,q5,q6,q7,q8⟩:=HXd.fz;go_wp2_with fail;exact zah (t:=⟨5,x1,b,e1+1,⟨#[]⟩,x1,0,0,0⟩) (p:=0) (e:=0) rfl rfl rfl rfl rfl (zar HXd.out ⟨5,x1,b,e1+1,⟨#[]⟩,x1,0,0,0⟩) ⟨by rw [HE.out];rfl,zac HBd (nL _) ⟨5,x1,b,e1+1,⟨#[]⟩,x1,0,0,0⟩⟩
 ·have t5:(chr s e1 != 125)=true:=by rw [bne,bF h5];rfl
  have HE:Hid (zbZ s b=.inr (b,30)):=by show zbZ s b=_;rw [HU.out];unfold zgr;rw [iP (.inr (.inr (.inr (.inr h5))))]
  clear HU HW h5;go_enter Tryz.func92,Tryz.ntmps92;go_wp2_with fail;refine (HH1 _).mono ?_;rintro e w2 ⟨rfl,rfl⟩;go_wp2_with fail;refine (HA _ _).mono ?_;rintro e w2 ⟨rfl,rfl⟩;go_wp2_with fail;refine (HA _ _).mono ?_;rintro e w2 ⟨rfl,rfl⟩;clear HH1 HA;go_wp2_with fail;refine (HWr _ _ _).mono ?_;rintro e w3 ⟨rfl,b3⟩;have HX3:=hO (HX.below b3);have HB3:Hid (Below w.heap.size w w3):=HB.trans (b3.mono HB.size);clear b3 HWr;obtain ⟨c0,c1,c2,c3,c4,c5,c6,c7,c8⟩:=HX3.cells;obtain ⟨f0,f1',f2',f3,f4,f5,f6,f7,f8⟩:=HX3.fz;go_wp2_with fail;exact zah rfl rfl rfl rfl rfl (zar HX3 tk0) ⟨by rw [HE.out];rfl,zac HB3 (nL _) tk0⟩
theorem zif (s:ByteArray) (b:Nat) (hs:s.size<=140737488355000) (hb:b+3<=s.size) (w:World):Calls Tryz.prog 92 #[.string s,.int .i64 b] w (rB w (zcr (zbZ s b))):=by
 by_cases hd:chr s (zbV s (b+3))=45
 ·exact zgR s b _ hs hb rfl hd w
 ·exact zga s b _ hs hb rfl hd w
theorem za9 (w w1 w2 w3 w4:World) (a b c:BitVec 256) (hb1:Below (w.alloc z4).heap.size (w.alloc z4) w1) (hb2:Below w1.heap.size w1 w2) (hb3:Below w2.heap.size w2 w3)
  (hb4:Below (((w3.alloc (c4 a)).alloc (c4 b)).alloc (c4 c)).heap.size (((w3.alloc (c4 a)).alloc (c4 b)).alloc (c4 c)) w4) :
  w.heap.size<w3.heap.size/\w3.heap.size+1+1<w4.heap.size/\Hid (Below w.heap.size w w4)/\Hid (Holds w4 w.heap.size 0#256)/\Hid (Holds w4 w3.heap.size a)/\Hid (Holds w4 (w3.heap.size+1) b)/\Hid (Holds w4 (w3.heap.size+1+1) c):=by
 have s1:=hb1.size;have s2:=hb2.size;have s3:=hb3.size;have s4:=hb4.size;rw [zna] at s1;rw [zla] at s4 hb4;rw [zna] at hb1;have h13:Below (w.heap.size+1) (w.alloc z4) w3:=(hb1.trans (hb2.mono (by omega))).trans (hb3.mono (by omega));have h3:Below w.heap.size w w3:=(zaL w z4).trans (h13.mono (by omega));have h34:Below w3.heap.size w3 w4:=(zce w3 (c4 a) (c4 b) (c4 c)).trans (hb4.mono (by omega));have e0:Holds w3 w.heap.size 0#256:=(Holds.zero w).below h13 (by omega);refine ⟨by omega,by omega,h3.trans (h34.mono (by omega)),e0.below h34 (by omega),?_,?_,?_⟩
 ·exact (((Holds.new w3 a).alloc (c4 b)).alloc (c4 c)).below hb4 (by omega)
 ·have h:=(Holds.new (w3.alloc (c4 a)) b).alloc (c4 c)
  rw [zna] at h;exact h.below hb4 (by omega)
 ·have h:=Holds.new ((w3.alloc (c4 a)).alloc (c4 b)) c
  rw [znb] at h;exact h.below hb4 (by omega)
theorem zlJ (w:World) :
  Calls Tryz.prog 87 #[.int .i64 97] w (rB w (.tuple #[sv (spn 65 90 ||| spn 97 122),.int .i64 0])):=by
 have HH:=hO (Holds.zero w);have HR:=hO (zaL w z4);go_enter Tryz.func87,Tryz.ntmps87;go_wp2_with fail;refine (zad 97 122 _ (by omega) (by omega) (by omega)).mono ?_;rintro e w1 ⟨rfl,hb1⟩;go_wp2_with fail;refine (zad 65 90 _ (by omega) (by omega) (by omega)).mono ?_;rintro e w2 ⟨rfl,hb2⟩;go_wp2_with fail;refine (zad 48 57 _ (by omega) (by omega) (by omega)).mono ?_;rintro e w3 ⟨rfl,hb3⟩;go_wp2_with fail;refine (zas _ _ _).mono ?_;rintro e w4 ⟨rfl,hb4⟩;have hq:=za9 w w1 w2 w3 w4 (spn 97 122) (spn 65 90) (spn 48 57) hb1 hb2 hb3 hb4;clear hb1 hb2 hb3 hb4;obtain ⟨hl3,hl4,HR4,H0,H6,H7,H8⟩:=hq;obtain ⟨l0,c00,c01,c02,c03,f00,f01,f02,f03⟩:=H0.out;go_wp2
 have HRf:=HR4;refine bodyPost_ret (v:=.tuple #[sv ((spn 97 122 ||| spn 65 90)),.int .i64 0]) (by simp [results,Tryz.results87,go_sem, *]) rfl ⟨?_,?_⟩
 ·exact congrArg (fun q=>Ending.returned (.tuple #[sv q,.int .i64 0])) (BitVec.or_comm _ _)
 ·repeat (first | exact HRf.out | (refine Below.setCell ?_ (by first | omega | (simp <;> omega)) _) | (refine Below.alloc ?_ (by first | omega | (simp <;> omega)) _))
theorem zlK (w:World) :
  Calls Tryz.prog 87 #[.int .i64 99] w (rB w (.tuple #[sv (spn 0 31 ||| bt 127),.int .i64 0])):=by
 have HH:=hO (Holds.zero w);have HR:=hO (zaL w z4);go_enter Tryz.func87,Tryz.ntmps87;go_wp2_with fail;refine (zad 97 122 _ (by omega) (by omega) (by omega)).mono ?_;rintro e w1 ⟨rfl,hb1⟩;go_wp2_with fail;refine (zad 65 90 _ (by omega) (by omega) (by omega)).mono ?_;rintro e w2 ⟨rfl,hb2⟩;go_wp2_with fail;refine (zad 48 57 _ (by omega) (by omega) (by omega)).mono ?_;rintro e w3 ⟨rfl,hb3⟩;go_wp2_with fail;refine (zas _ _ _).mono ?_;rintro e w4 ⟨rfl,hb4⟩;have hq:=za9 w w1 w2 w3 w4 (spn 97 122) (spn 65 90) (spn 48 57) hb1 hb2 hb3 hb4;clear hb1 hb2 hb3 hb4;obtain ⟨hl3,hl4,HR4,H0,H6,H7,H8⟩:=hq;have HQ:Hid (Below (w4.heap.size+1) (w4.alloc (c4 (spn 97 122 ||| spn 65 90))) (w4.alloc (c4 (spn 97 122 ||| spn 65 90)))):=bR _ _;go_wp2_with fail;refine (zad 0 31 _ (by omega) (by omega) (by omega)).mono ?_;rintro e w5 ⟨rfl,hb⟩
 replace HQ:=(show Hid _ from HQ.trans (hb.mono (by first | exact HQ.size | (have h:=HQ.size;simp at h;omega) | simp)))
 go_wp2_with fail;refine (zbw _ 127 _ (by omega) (by omega)).mono ?_;rintro e w5 ⟨rfl,hb⟩
 replace HQ:=(show Hid _ from HQ.trans (hb.mono (by first | exact HQ.size | (have h:=HQ.size;simp at h;omega) | simp)))
 rw [show (127:Int).toNat=127 from rfl];have HR5:=hO ((HR4.alloc (by omega) (c4 (spn 97 122 ||| spn 65 90))).trans (HQ.mono (by omega)));obtain ⟨l0,c00,c01,c02,c03,f00,f01,f02,f03⟩:=(H0.alloc (c4 (spn 97 122 ||| spn 65 90))).below HQ (by have h:=H0.lt;omega);clear hb;go_wp2
 have HRf:=HR5;refine bodyPost_ret (v:=.tuple #[sv (spn 0 31 ||| bt 127),.int .i64 0]) (by simp [results,Tryz.results87,go_sem, *]) rfl ⟨?_,?_⟩
 ·rfl
 ·repeat (first | exact HRf.out | (refine Below.setCell ?_ (by first | omega | (simp <;> omega)) _) | (refine Below.alloc ?_ (by first | omega | (simp <;> omega)) _))
theorem zjG (w:World) :
  Calls Tryz.prog 87 #[.int .i64 100] w (rB w (.tuple #[sv (spn 48 57),.int .i64 0])):=by
 have HH:=hO (Holds.zero w);have HR:=hO (zaL w z4);go_enter Tryz.func87,Tryz.ntmps87;go_wp2_with fail;refine (zad 97 122 _ (by omega) (by omega) (by omega)).mono ?_;rintro e w1 ⟨rfl,hb1⟩;go_wp2_with fail;refine (zad 65 90 _ (by omega) (by omega) (by omega)).mono ?_;rintro e w2 ⟨rfl,hb2⟩;go_wp2_with fail;refine (zad 48 57 _ (by omega) (by omega) (by omega)).mono ?_;rintro e w3 ⟨rfl,hb3⟩;go_wp2_with fail;refine (zas _ _ _).mono ?_;rintro e w4 ⟨rfl,hb4⟩;have hq:=za9 w w1 w2 w3 w4 (spn 97 122) (spn 65 90) (spn 48 57) hb1 hb2 hb3 hb4;clear hb1 hb2 hb3 hb4;obtain ⟨hl3,hl4,HR4,H0,H6,H7,H8⟩:=hq;obtain ⟨l0,c00,c01,c02,c03,f00,f01,f02,f03⟩:=H0.out;obtain ⟨l8,c80,c81,c82,c83,f80,f81,f82,f83⟩:=H8.out;go_wp2
 have HRf:=HR4;refine bodyPost_ret (v:=.tuple #[sv (spn 48 57),.int .i64 0]) (by simp [results,Tryz.results87,go_sem, *]) rfl ⟨?_,?_⟩
 ·rfl
 ·repeat (first | exact HRf.out | (refine Below.setCell ?_ (by first | omega | (simp <;> omega)) _) | (refine Below.alloc ?_ (by first | omega | (simp <;> omega)) _))
theorem zjH (w:World) :
  Calls Tryz.prog 87 #[.int .i64 103] w (rB w (.tuple #[sv (spn 33 126),.int .i64 0])):=by
 have HH:=hO (Holds.zero w);have HR:=hO (zaL w z4);go_enter Tryz.func87,Tryz.ntmps87;go_wp2_with fail;refine (zad 97 122 _ (by omega) (by omega) (by omega)).mono ?_;rintro e w1 ⟨rfl,hb1⟩;go_wp2_with fail;refine (zad 65 90 _ (by omega) (by omega) (by omega)).mono ?_;rintro e w2 ⟨rfl,hb2⟩;go_wp2_with fail;refine (zad 48 57 _ (by omega) (by omega) (by omega)).mono ?_;rintro e w3 ⟨rfl,hb3⟩;go_wp2_with fail;refine (zas _ _ _).mono ?_;rintro e w4 ⟨rfl,hb4⟩;have hq:=za9 w w1 w2 w3 w4 (spn 97 122) (spn 65 90) (spn 48 57) hb1 hb2 hb3 hb4;clear hb1 hb2 hb3 hb4;obtain ⟨hl3,hl4,HR4,H0,H6,H7,H8⟩:=hq;have HQ:Hid (Below (w4.heap.size+1) (w4.alloc (c4 (spn 97 122 ||| spn 65 90))) (w4.alloc (c4 (spn 97 122 ||| spn 65 90)))):=bR _ _;go_wp2_with fail;refine (zad 33 126 _ (by omega) (by omega) (by omega)).mono ?_;rintro e w5 ⟨rfl,hb⟩
 replace HQ:=(show Hid _ from HQ.trans (hb.mono (by first | exact HQ.size | (have h:=HQ.size;simp at h;omega) | simp)))
 have HR5:=hO ((HR4.alloc (by omega) (c4 (spn 97 122 ||| spn 65 90))).trans (HQ.mono (by omega)));obtain ⟨l0,c00,c01,c02,c03,f00,f01,f02,f03⟩:=(H0.alloc (c4 (spn 97 122 ||| spn 65 90))).below HQ (by have h:=H0.lt;omega);clear hb;go_wp2
 have HRf:=HR5;refine bodyPost_ret (v:=.tuple #[sv (spn 33 126),.int .i64 0]) (by simp [results,Tryz.results87,go_sem, *]) rfl ⟨?_,?_⟩
 ·rfl
 ·repeat (first | exact HRf.out | (refine Below.setCell ?_ (by first | omega | (simp <;> omega)) _) | (refine Below.alloc ?_ (by first | omega | (simp <;> omega)) _))
theorem zjI (w:World) :
  Calls Tryz.prog 87 #[.int .i64 108] w (rB w (.tuple #[sv (spn 97 122),.int .i64 0])):=by
 have HH:=hO (Holds.zero w);have HR:=hO (zaL w z4);go_enter Tryz.func87,Tryz.ntmps87;go_wp2_with fail;refine (zad 97 122 _ (by omega) (by omega) (by omega)).mono ?_;rintro e w1 ⟨rfl,hb1⟩;go_wp2_with fail;refine (zad 65 90 _ (by omega) (by omega) (by omega)).mono ?_;rintro e w2 ⟨rfl,hb2⟩;go_wp2_with fail;refine (zad 48 57 _ (by omega) (by omega) (by omega)).mono ?_;rintro e w3 ⟨rfl,hb3⟩;go_wp2_with fail;refine (zas _ _ _).mono ?_;rintro e w4 ⟨rfl,hb4⟩;have hq:=za9 w w1 w2 w3 w4 (spn 97 122) (spn 65 90) (spn 48 57) hb1 hb2 hb3 hb4;clear hb1 hb2 hb3 hb4;obtain ⟨hl3,hl4,HR4,H0,H6,H7,H8⟩:=hq;obtain ⟨l0,c00,c01,c02,c03,f00,f01,f02,f03⟩:=H0.out;obtain ⟨l6,c60,c61,c62,c63,f60,f61,f62,f63⟩:=H6.out;go_wp2
 have HRf:=HR4;refine bodyPost_ret (v:=.tuple #[sv (spn 97 122),.int .i64 0]) (by simp [results,Tryz.results87,go_sem, *]) rfl ⟨?_,?_⟩
 ·rfl
 ·repeat (first | exact HRf.out | (refine Below.setCell ?_ (by first | omega | (simp <;> omega)) _) | (refine Below.alloc ?_ (by first | omega | (simp <;> omega)) _))
theorem zjJ (w:World) :
  Calls Tryz.prog 87 #[.int .i64 115] w (rB w (.tuple #[sv (spn 9 13 ||| bt 32),.int .i64 0])):=by
 have HH:=hO (Holds.zero w);have HR:=hO (zaL w z4);go_enter Tryz.func87,Tryz.ntmps87;go_wp2_with fail;refine (zad 97 122 _ (by omega) (by omega) (by omega)).mono ?_;rintro e w1 ⟨rfl,hb1⟩;go_wp2_with fail;refine (zad 65 90 _ (by omega) (by omega) (by omega)).mono ?_;rintro e w2 ⟨rfl,hb2⟩;go_wp2_with fail;refine (zad 48 57 _ (by omega) (by omega) (by omega)).mono ?_;rintro e w3 ⟨rfl,hb3⟩;go_wp2_with fail;refine (zas _ _ _).mono ?_;rintro e w4 ⟨rfl,hb4⟩;have hq:=za9 w w1 w2 w3 w4 (spn 97 122) (spn 65 90) (spn 48 57) hb1 hb2 hb3 hb4;clear hb1 hb2 hb3 hb4;obtain ⟨hl3,hl4,HR4,H0,H6,H7,H8⟩:=hq;have HQ:Hid (Below (w4.heap.size+1) (w4.alloc (c4 (spn 97 122 ||| spn 65 90))) (w4.alloc (c4 (spn 97 122 ||| spn 65 90)))):=bR _ _;go_wp2_with fail;refine (zad 9 13 _ (by omega) (by omega) (by omega)).mono ?_;rintro e w5 ⟨rfl,hb⟩
 replace HQ:=(show Hid _ from HQ.trans (hb.mono (by first | exact HQ.size | (have h:=HQ.size;simp at h;omega) | simp)))
 go_wp2_with fail;refine (zbw _ 32 _ (by omega) (by omega)).mono ?_;rintro e w5 ⟨rfl,hb⟩
 replace HQ:=(show Hid _ from HQ.trans (hb.mono (by first | exact HQ.size | (have h:=HQ.size;simp at h;omega) | simp)))
 rw [show (32:Int).toNat=32 from rfl];have HR5:=hO ((HR4.alloc (by omega) (c4 (spn 97 122 ||| spn 65 90))).trans (HQ.mono (by omega)));obtain ⟨l0,c00,c01,c02,c03,f00,f01,f02,f03⟩:=(H0.alloc (c4 (spn 97 122 ||| spn 65 90))).below HQ (by have h:=H0.lt;omega);clear hb;go_wp2
 have HRf:=HR5;refine bodyPost_ret (v:=.tuple #[sv (spn 9 13 ||| bt 32),.int .i64 0]) (by simp [results,Tryz.results87,go_sem, *]) rfl ⟨?_,?_⟩
 ·rfl
 ·repeat (first | exact HRf.out | (refine Below.setCell ?_ (by first | omega | (simp <;> omega)) _) | (refine Below.alloc ?_ (by first | omega | (simp <;> omega)) _))
theorem zjK (w:World) :
  Calls Tryz.prog 87 #[.int .i64 117] w (rB w (.tuple #[sv (spn 65 90),.int .i64 0])):=by
 have HH:=hO (Holds.zero w);have HR:=hO (zaL w z4);go_enter Tryz.func87,Tryz.ntmps87;go_wp2_with fail;refine (zad 97 122 _ (by omega) (by omega) (by omega)).mono ?_;rintro e w1 ⟨rfl,hb1⟩;go_wp2_with fail;refine (zad 65 90 _ (by omega) (by omega) (by omega)).mono ?_;rintro e w2 ⟨rfl,hb2⟩;go_wp2_with fail;refine (zad 48 57 _ (by omega) (by omega) (by omega)).mono ?_;rintro e w3 ⟨rfl,hb3⟩;go_wp2_with fail;refine (zas _ _ _).mono ?_;rintro e w4 ⟨rfl,hb4⟩;have hq:=za9 w w1 w2 w3 w4 (spn 97 122) (spn 65 90) (spn 48 57) hb1 hb2 hb3 hb4;clear hb1 hb2 hb3 hb4;obtain ⟨hl3,hl4,HR4,H0,H6,H7,H8⟩:=hq;obtain ⟨l0,c00,c01,c02,c03,f00,f01,f02,f03⟩:=H0.out;obtain ⟨l7,c70,c71,c72,c73,f70,f71,f72,f73⟩:=H7.out;go_wp2
 have HRf:=HR4;refine bodyPost_ret (v:=.tuple #[sv (spn 65 90),.int .i64 0]) (by simp [results,Tryz.results87,go_sem, *]) rfl ⟨?_,?_⟩
 ·rfl
 ·repeat (first | exact HRf.out | (refine Below.setCell ?_ (by first | omega | (simp <;> omega)) _) | (refine Below.alloc ?_ (by first | omega | (simp <;> omega)) _))
theorem zjL (w:World) :
  Calls Tryz.prog 87 #[.int .i64 119] w (rB w (.tuple #[sv (spn 65 90 ||| spn 97 122 ||| spn 48 57),.int .i64 0])):=by
 have HH:=hO (Holds.zero w);have HR:=hO (zaL w z4);go_enter Tryz.func87,Tryz.ntmps87;go_wp2_with fail;refine (zad 97 122 _ (by omega) (by omega) (by omega)).mono ?_;rintro e w1 ⟨rfl,hb1⟩;go_wp2_with fail;refine (zad 65 90 _ (by omega) (by omega) (by omega)).mono ?_;rintro e w2 ⟨rfl,hb2⟩;go_wp2_with fail;refine (zad 48 57 _ (by omega) (by omega) (by omega)).mono ?_;rintro e w3 ⟨rfl,hb3⟩;go_wp2_with fail;refine (zas _ _ _).mono ?_;rintro e w4 ⟨rfl,hb4⟩;have hq:=za9 w w1 w2 w3 w4 (spn 97 122) (spn 65 90) (spn 48 57) hb1 hb2 hb3 hb4;clear hb1 hb2 hb3 hb4;obtain ⟨hl3,hl4,HR4,H0,H6,H7,H8⟩:=hq;have HQ:Hid (Below (w4.heap.size+1) (w4.alloc (c4 (spn 97 122 ||| spn 65 90))) (w4.alloc (c4 (spn 97 122 ||| spn 65 90)))):=bR _ _;obtain ⟨l8,c80,c81,c82,c83,f80,f81,f82,f83⟩:=H8.out;go_wp2_with fail;refine (zas _ _ _).mono ?_;rintro e w5 ⟨rfl,hb⟩
 replace HQ:=(show Hid _ from HQ.trans (hb.mono (by first | exact HQ.size | (have h:=HQ.size;simp at h;omega) | simp)))
 have HR5:=hO ((HR4.alloc (by omega) (c4 (spn 97 122 ||| spn 65 90))).trans (HQ.mono (by omega)));obtain ⟨l0,c00,c01,c02,c03,f00,f01,f02,f03⟩:=(H0.alloc (c4 (spn 97 122 ||| spn 65 90))).below HQ (by have h:=H0.lt;omega);clear hb;go_wp2
 have HRf:=HR5;refine bodyPost_ret (v:=.tuple #[sv ((spn 97 122 ||| spn 65 90) ||| spn 48 57),.int .i64 0]) (by simp [results,Tryz.results87,go_sem, *]) rfl ⟨?_,?_⟩
 ·exact congrArg (fun q=>Ending.returned (.tuple #[sv q,.int .i64 0])) (by rw [BitVec.or_comm (spn 97 122)])
 ·repeat (first | exact HRf.out | (refine Below.setCell ?_ (by first | omega | (simp <;> omega)) _) | (refine Below.alloc ?_ (by first | omega | (simp <;> omega)) _))
theorem zjM (w:World) :
  Calls Tryz.prog 87 #[.int .i64 112] w (rB w (.tuple #[sv (spn 33 126 &&& ~~~ (spn 65 90 ||| spn 97 122 ||| spn 48 57)),.int .i64 0])):=by
 have HH:=hO (Holds.zero w);have HR:=hO (zaL w z4);go_enter Tryz.func87,Tryz.ntmps87;go_wp2_with fail;refine (zad 97 122 _ (by omega) (by omega) (by omega)).mono ?_;rintro e w1 ⟨rfl,hb1⟩;go_wp2_with fail;refine (zad 65 90 _ (by omega) (by omega) (by omega)).mono ?_;rintro e w2 ⟨rfl,hb2⟩;go_wp2_with fail;refine (zad 48 57 _ (by omega) (by omega) (by omega)).mono ?_;rintro e w3 ⟨rfl,hb3⟩;go_wp2_with fail;refine (zas _ _ _).mono ?_;rintro e w4 ⟨rfl,hb4⟩;have hq:=za9 w w1 w2 w3 w4 (spn 97 122) (spn 65 90) (spn 48 57) hb1 hb2 hb3 hb4;clear hb1 hb2 hb3 hb4;obtain ⟨hl3,hl4,HR4,H0,H6,H7,H8⟩:=hq;have HQ:Hid (Below (w4.heap.size+1) (w4.alloc (c4 (spn 97 122 ||| spn 65 90))) (w4.alloc (c4 (spn 97 122 ||| spn 65 90)))):=bR _ _;obtain ⟨l8,c80,c81,c82,c83,f80,f81,f82,f83⟩:=H8.out;go_wp2
 go_region_with (first | (go_at_call 90;refine (zad 33 126 _ (by omega) (by omega) (by omega)).mono ?_;rintro e w5 ⟨rfl,hb⟩;have hq2:Below (w4.heap.size+1) (w4.alloc (c4 (spn 97 122 ||| spn 65 90))) w5:=(by first | exact HQ.out.trans (hb.mono (by first | exact HQ.out.size | (have h:=HQ.out.size;simp at h;omega))) | exact HQ.out.drew.trans (hb.mono (by simp)));replace HQ:=(show Hid _ from hq2);obtain ⟨l0,c00,c01,c02,c03,f00,f01,f02,f03⟩:=(H0.out.alloc (c4 (spn 97 122 ||| spn 65 90))).below HQ.out (by have h:=H0.out.lt;omega);obtain ⟨l8,c80,c81,c82,c83,f80,f81,f82,f83⟩:=(H8.out.alloc (c4 (spn 97 122 ||| spn 65 90))).below HQ.out (by omega);obtain ⟨l9,c90,c91,c92,c93,f90,f91,f92,f93⟩:=(Holds.new w4 (spn 97 122 ||| spn 65 90)).below HQ.out (by omega)) | (go_at_call 88;refine (zas _ _ _).mono ?_;rintro e w5 ⟨rfl,hb⟩;have hq2:Below (w4.heap.size+1) (w4.alloc (c4 (spn 97 122 ||| spn 65 90))) w5:=(by first | exact HQ.out.trans (hb.mono (by first | exact HQ.out.size | (have h:=HQ.out.size;simp at h;omega))) | exact HQ.out.drew.trans (hb.mono (by simp)));replace HQ:=(show Hid _ from hq2);obtain ⟨l0,c00,c01,c02,c03,f00,f01,f02,f03⟩:=(H0.out.alloc (c4 (spn 97 122 ||| spn 65 90))).below HQ.out (by have h:=H0.out.lt;omega);obtain ⟨l8,c80,c81,c82,c83,f80,f81,f82,f83⟩:=(H8.out.alloc (c4 (spn 97 122 ||| spn 65 90))).below HQ.out (by omega);obtain ⟨l9,c90,c91,c92,c93,f90,f91,f92,f93⟩:=(Holds.new w4 (spn 97 122 ||| spn 65 90)).below HQ.out (by omega)) | (go_at_call 117;refine (ziI _ _ _).mono ?_;rintro e w5 ⟨rfl,hb⟩;have hq2:Below (w4.heap.size+1) (w4.alloc (c4 (spn 97 122 ||| spn 65 90))) w5:=(by first | exact HQ.out.trans (hb.mono (by first | exact HQ.out.size | (have h:=HQ.out.size;simp at h;omega))) | exact HQ.out.drew.trans (hb.mono (by simp)));replace HQ:=(show Hid _ from hq2);obtain ⟨l0,c00,c01,c02,c03,f00,f01,f02,f03⟩:=(H0.out.alloc (c4 (spn 97 122 ||| spn 65 90))).below HQ.out (by have h:=H0.out.lt;omega);obtain ⟨l8,c80,c81,c82,c83,f80,f81,f82,f83⟩:=(H8.out.alloc (c4 (spn 97 122 ||| spn 65 90))).below HQ.out (by omega);obtain ⟨l9,c90,c91,c92,c93,f90,f91,f92,f93⟩:=(Holds.new w4 (spn 97 122 ||| spn 65 90)).below HQ.out (by omega)))
 all_goals
  have HR5:=hO ((HR4.alloc (by omega) (c4 (spn 97 122 ||| spn 65 90))).trans (HQ.mono (by omega)));clear hb;go_wp2
  have HRf:=HR5;refine bodyPost_ret (v:=.tuple #[sv (spn 33 126 &&& ~~~ ((spn 97 122 ||| spn 65 90) ||| spn 48 57)),.int .i64 0]) (by simp [results,Tryz.results87,go_sem, *]) rfl ⟨?_,?_⟩
  ·exact congrArg (fun q=>Ending.returned (.tuple #[sv q,.int .i64 0])) (by rw [BitVec.or_comm (spn 97 122)])
  ·repeat (first | exact HRf.out | (refine Below.setCell ?_ (by first | omega | (simp <;> omega)) _) | (refine Below.alloc ?_ (by first | omega | (simp <;> omega)) _))
theorem zjN (w:World) :
  Calls Tryz.prog 87 #[.int .i64 120] w (rB w (.tuple #[sv (spn 48 57 ||| spn 65 70 ||| spn 97 102),.int .i64 0])):=by
 have HH:=hO (Holds.zero w);have HR:=hO (zaL w z4);go_enter Tryz.func87,Tryz.ntmps87;go_wp2_with fail;refine (zad 97 122 _ (by omega) (by omega) (by omega)).mono ?_;rintro e w1 ⟨rfl,hb1⟩;go_wp2_with fail;refine (zad 65 90 _ (by omega) (by omega) (by omega)).mono ?_;rintro e w2 ⟨rfl,hb2⟩;go_wp2_with fail;refine (zad 48 57 _ (by omega) (by omega) (by omega)).mono ?_;rintro e w3 ⟨rfl,hb3⟩;go_wp2_with fail;refine (zas _ _ _).mono ?_;rintro e w4 ⟨rfl,hb4⟩;have hq:=za9 w w1 w2 w3 w4 (spn 97 122) (spn 65 90) (spn 48 57) hb1 hb2 hb3 hb4;clear hb1 hb2 hb3 hb4;obtain ⟨hl3,hl4,HR4,H0,H6,H7,H8⟩:=hq;have HQ:Hid (Below (w4.heap.size+1) (w4.alloc (c4 (spn 97 122 ||| spn 65 90))) (w4.alloc (c4 (spn 97 122 ||| spn 65 90)))):=bR _ _;obtain ⟨l8,c80,c81,c82,c83,f80,f81,f82,f83⟩:=H8.out;go_wp2
 go_region_with (first | (go_at_call 90;refine (zad _ _ _ (by omega) (by omega) (by omega)).mono ?_;rintro e w5 ⟨rfl,hb⟩;have hq2:Below (w4.heap.size+1) (w4.alloc (c4 (spn 97 122 ||| spn 65 90))) w5:=(by first | exact HQ.out.trans (hb.mono (by first | exact HQ.out.size | (have h:=HQ.out.size;simp at h;omega))) | exact HQ.out.drew.trans (hb.mono (by simp)));replace HQ:=(show Hid _ from hq2);obtain ⟨l0,c00,c01,c02,c03,f00,f01,f02,f03⟩:=(H0.out.alloc (c4 (spn 97 122 ||| spn 65 90))).below HQ.out (by have h:=H0.out.lt;omega);obtain ⟨l8,c80,c81,c82,c83,f80,f81,f82,f83⟩:=(H8.out.alloc (c4 (spn 97 122 ||| spn 65 90))).below HQ.out (by omega)) | (go_at_call 88;refine (zas _ _ _).mono ?_;rintro e w5 ⟨rfl,hb⟩;have hq2:Below (w4.heap.size+1) (w4.alloc (c4 (spn 97 122 ||| spn 65 90))) w5:=(by first | exact HQ.out.trans (hb.mono (by first | exact HQ.out.size | (have h:=HQ.out.size;simp at h;omega))) | exact HQ.out.drew.trans (hb.mono (by simp)));replace HQ:=(show Hid _ from hq2);obtain ⟨l0,c00,c01,c02,c03,f00,f01,f02,f03⟩:=(H0.out.alloc (c4 (spn 97 122 ||| spn 65 90))).below HQ.out (by have h:=H0.out.lt;omega);obtain ⟨l8,c80,c81,c82,c83,f80,f81,f82,f83⟩:=(H8.out.alloc (c4 (spn 97 122 ||| spn 65 90))).below HQ.out (by omega)))
 all_goals
  have HR5:=hO ((HR4.alloc (by omega) (c4 (spn 97 122 ||| spn 65 90))).trans (HQ.mono (by omega)));clear hb;go_wp2
  have HRf:=HR5;refine bodyPost_ret (v:=.tuple #[sv (spn 48 57 ||| (spn 65 70 ||| spn 97 102)),.int .i64 0]) (by simp [results,Tryz.results87,go_sem, *]) rfl ⟨?_,?_⟩
  ·exact congrArg (fun q=>Ending.returned (.tuple #[sv q,.int .i64 0])) ((BitVec.or_assoc _ _ _).symm)
  ·repeat (first | exact HRf.out | (refine Below.setCell ?_ (by first | omega | (simp <;> omega)) _) | (refine Below.alloc ?_ (by first | omega | (simp <;> omega)) _))
theorem zfa (n:Int) (w:World) (hcap:¬(65<=n/\n<=90)) (h97:(n==97)=false) (h99:(n==99)=false) (h100:(n==100)=false) (h103:(n==103)=false) (h108:(n==108)=false) (h112:(n==112)=false) (h115:(n==115)=false) (h117:(n==117)=false) (h119:(n==119)=false) (h120:(n==120)=false) :
  Calls Tryz.prog 87 #[.int .i64 n] w (rB w (.tuple #[sv 0#256,.int .i64 10])):=by
 by_cases g0:65<=n
 ·have g1:¬n<=90:=fun h=>hcap ⟨g0,h⟩
  have d0:decide (65<=n)=true:=by simpa using g0
  have d1:decide (n<=90)=false:=by simpa using g1
  clear hcap;have HH:=hO (Holds.zero w);have HR:=hO (zaL w z4);go_enter Tryz.func87,Tryz.ntmps87;go_wp2_with fail;refine (zad 97 122 _ (by omega) (by omega) (by omega)).mono ?_;rintro e w1 ⟨rfl,hb1⟩;go_wp2_with fail;refine (zad 65 90 _ (by omega) (by omega) (by omega)).mono ?_;rintro e w2 ⟨rfl,hb2⟩;go_wp2_with fail;refine (zad 48 57 _ (by omega) (by omega) (by omega)).mono ?_;rintro e w3 ⟨rfl,hb3⟩;go_wp2_with fail;refine (zas _ _ _).mono ?_;rintro e w4 ⟨rfl,hb4⟩;have hq:=za9 w w1 w2 w3 w4 (spn 97 122) (spn 65 90) (spn 48 57) hb1 hb2 hb3 hb4;clear hb1 hb2 hb3 hb4;obtain ⟨hl3,hl4,HR4,H0,H6,H7,H8⟩:=hq;obtain ⟨l0,c0,c1,c2,c3,f0,f1,f2,f3⟩:=H0.out;go_wp2
  have HRf:=HR4;refine bodyPost_ret (v:=.tuple #[sv 0#256,.int .i64 10]) (by simp [results,Tryz.results87,go_sem,zak, *]) rfl ⟨rfl,?_⟩
  repeat (first | exact HRf.out | (refine Below.setCell ?_ (by first | omega | (simp <;> omega)) _) | (refine Below.alloc ?_ (by first | omega | (simp <;> omega)) _))
 ·have d0:decide (65<=n)=false:=by simpa using g0
  clear hcap;have HH:=hO (Holds.zero w);have HR:=hO (zaL w z4);go_enter Tryz.func87,Tryz.ntmps87;go_wp2_with fail;refine (zad 97 122 _ (by omega) (by omega) (by omega)).mono ?_;rintro e w1 ⟨rfl,hb1⟩;go_wp2_with fail;refine (zad 65 90 _ (by omega) (by omega) (by omega)).mono ?_;rintro e w2 ⟨rfl,hb2⟩;go_wp2_with fail;refine (zad 48 57 _ (by omega) (by omega) (by omega)).mono ?_;rintro e w3 ⟨rfl,hb3⟩;go_wp2_with fail;refine (zas _ _ _).mono ?_;rintro e w4 ⟨rfl,hb4⟩;have hq:=za9 w w1 w2 w3 w4 (spn 97 122) (spn 65 90) (spn 48 57) hb1 hb2 hb3 hb4;clear hb1 hb2 hb3 hb4;obtain ⟨hl3,hl4,HR4,H0,H6,H7,H8⟩:=hq;obtain ⟨l0,c0,c1,c2,c3,f0,f1,f2,f3⟩:=H0.out;go_wp2
  have HRf:=HR4;refine bodyPost_ret (v:=.tuple #[sv 0#256,.int .i64 10]) (by simp [results,Tryz.results87,go_sem,zak, *]) rfl ⟨rfl,?_⟩
  repeat (first | exact HRf.out | (refine Below.setCell ?_ (by first | omega | (simp <;> omega)) _) | (refine Below.alloc ?_ (by first | omega | (simp <;> omega)) _))
theorem zdP (n:Nat) (w:World) (hcap:¬(65<=n/\n<=90)) :
  Calls Tryz.prog 87 #[.int .i64 n] w (rB w (.tuple #[sv (sml n).1,.int .i64 (sml n).2])):=by
 by_cases h97:n=97
 ·subst h97;rw [znd];exact zlJ w
 by_cases h99:n=99
 ·subst h99;rw [zne];exact zlK w
 by_cases h100:n=100
 ·subst h100;rw [ziJ];exact zjG w
 by_cases h103:n=103
 ·subst h103;rw [ziK];exact zjH w
 by_cases h108:n=108
 ·subst h108;rw [ziL];exact zjI w
 by_cases h112:n=112
 ·subst h112;rw [ziM];exact zjM w
 by_cases h115:n=115
 ·subst h115;rw [ziN];exact zjJ w
 by_cases h117:n=117
 ·subst h117;rw [ziO];exact zjK w
 by_cases h119:n=119
 ·subst h119;rw [ziP];exact zjL w
 by_cases h120:n=120
 ·subst h120;rw [ziQ];exact zjN w
 rw [zfl n h97 h99 h100 h103 h108 h112 h115 h117 h119 h120];exact zfa n w (by omega) (bF (by omega)) (bF (by omega)) (bF (by omega)) (bF (by omega)) (bF (by omega)) (bF (by omega)) (bF (by omega)) (bF (by omega)) (bF (by omega)) (bF (by omega))
theorem zcX (n:Int) (w:World) (hn:n<0) :
  Calls Tryz.prog 87 #[.int .i64 n] w (rB w (.tuple #[sv 0#256,.int .i64 10])) :=
 zfa n w (by omega) (bF (by omega)) (bF (by omega)) (bF (by omega)) (bF (by omega)) (bF (by omega)) (bF (by omega)) (bF (by omega)) (bF (by omega)) (bF (by omega)) (bF (by omega))
theorem zbr (n:Nat) (hn:n<256) (w:World) :
  Calls Tryz.prog 87 #[.int .i64 n] w (rB w (.tuple #[sv (cls n).1,.int .i64 (cls n).2])):=by
 by_cases hc:65<=n/\n<=90
 ·have HH:=hO (Holds.zero w)
  have HR:=hO (zaL w z4);have Hc:=hO hc;have g0:65<=(n:Int):=by omega
  have g1:(n:Int)<=90:=by omega
  have d0:decide (65<=(n:Int))=true:=by simpa using g0
  have d1:decide ((n:Int)<=90)=true:=by simpa using g1
  clear hc
  rcases zdJ (n+32) with he | he
  ·have HE:=hO (zgQ n Hc he)
   go_enter Tryz.func87,Tryz.ntmps87;go_wp2_with fail;rw [show (n:Int)+32=((n+32:Nat):Int) from by omega];refine (zdP (n+32) _ (by have:=Hc.out;omega)).mono ?_;rintro e w1 ⟨rfl,hb⟩;have hl:w.heap.size<w1.heap.size:=by have h:=hb.size;simp at h;omega
   have HR1:=hO (HR.trans (hb.mono (by simp)));have HH1:=hO (HH.below hb (by simp));rw [he];clear he hb HH HR;generalize (sml (n+32)).1=r at *;go_wp2_with fail;refine (zhj r _).mono ?_;rintro e w2 ⟨rfl,hb⟩;have HR2:=hO ((HR1.alloc (by omega) (c4 r)).trans (hb.mono (by simp;omega)));have hl2:w.heap.size<w2.heap.size:=by have h:=hb.size;simp at h;omega
   obtain ⟨l0,c0,c1,c2,c3,f0,f1,f2,f3⟩:=(HH1.alloc (c4 r)).below hb (by simp;omega);generalize hr : ~~~ r=q at *;clear hr hb;go_wp2
   rw [HE.out];refine bodyPost_ret (v:=.tuple #[sv q,.int .i64 0]) (by simp [results,Tryz.results87,go_sem, *]) rfl ⟨rfl,zcm HR2 (nL _) _⟩
  ·have HE:=hO (zjC n Hc he)
   go_enter Tryz.func87,Tryz.ntmps87;go_wp2_with fail;rw [show (n:Int)+32=((n+32:Nat):Int) from by omega];refine (zdP (n+32) _ (by have:=Hc.out;omega)).mono ?_;rintro e w1 ⟨rfl,hb⟩;have hl:w.heap.size<w1.heap.size:=by have h:=hb.size;simp at h;omega
   have HR1:=hO (HR.trans (hb.mono (by simp)));obtain ⟨l0,c0,c1,c2,c3,f0,f1,f2,f3⟩:=HH.below hb (by simp);rw [he];clear he hb HH HR;generalize (sml (n+32)).1=r at *;go_wp2
   rw [HE.out];refine bodyPost_ret (v:=.tuple #[sv 0#256,.int .i64 10]) (by simp [results,Tryz.results87,go_sem,zak, *]) rfl ⟨rfl,?_⟩
   repeat (first | exact HR1.out | (refine Below.setCell ?_ (by first | omega | (simp <;> omega)) _) | (refine Below.alloc ?_ (by first | omega | (simp <;> omega)) _))
 ·rw [zeA n hc]
  exact zdP n w hc
end Go.Proofs.YtkihfkcmcdiajaaGreatDoor
