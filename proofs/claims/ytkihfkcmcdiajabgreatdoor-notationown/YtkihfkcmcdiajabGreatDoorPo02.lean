import Derived.ProofKit
import Derived.Test.YtkihfkcmcdiajabGreatDoorPo01
set_option maxRecDepth 100000
set_option maxHeartbeats 8000000
namespace Go.Proofs.YtkihfkcmcdiajabGreatDoor
open Go.RowKit
theorem zaN (w:World) (a:Obj):bW w (w.alloc a):=(bR _ _).alloc (nL _) _
theorem zep (lo hi:Int) (w:World) (h0:0<=lo) (hle:lo<=hi) (h1:hi<=255) :
  Cl 148 #[.agg #[.int .u64 0,.int .u64 0,.int .u64 0,.int .u64 0],.int .i64 lo,.int .i64 hi] w (rB w (sv (spn lo hi))):=by
 have h:=zcY 0#256 lo hi w h0 hle h1;rw [BitVec.zero_or,sv,zal,zal,zal,zal] at h;exact h
def znI (b:Int):Bool:=decide (65<=b)&&decide (b<=90)
theorem zcq (b:Int) (w:World) :
  Cl 129 #[.int .i64 b] w (rU w (.bool (znI b))):=by
 by_cases h0:65<=b
 ·have hd:decide (65<=b)=true:=by simpa using h0
  go_enter Tryz.func129,Tryz.ntmps129;go_wp2
  go_ret
  exact ⟨by simp [znI,h0],rfl⟩
 ·have hd:decide (65<=b)=false:=by simpa using h0
  go_enter Tryz.func129,Tryz.ntmps129;go_wp2
  go_ret
  exact ⟨by unfold znI;rw [hd];rfl,rfl⟩
theorem zaE (lo hi:Int) (w:World) (h0:0<=lo) (hle:lo<=hi) (h1:hi<=255) :
  Cl 145 #[.int .i64 lo,.int .i64 hi] w (rB w (sv (spn lo hi))):=by
 have HH:=hO (Holds.zero w);have HR:=hO (zaN w z4);have HQ:Hid (Below (w.heap.size+1) (w.alloc z4) (w.alloc z4)):=bR _ _;go_enter Tryz.func145,Tryz.ntmps145;go_wp2_with fail;refine (zep lo hi _ h0 hle h1).mono ?_;rintro e w1 ⟨rfl,hb⟩
 replace HQ:=(show Hid _ from HQ.trans (hb.mono (by first | exact HQ.size | (have h:=HQ.size;simp at h;omega) | simp)))
 have HR1:=hO (HR.trans (HQ.mono (by omega)));obtain ⟨l0,c0,c1,c2,c3,f0,f1,f2,f3⟩:=HH.below HQ (by omega);generalize hr:spn lo hi=r;have Hr:=hO hr;clear hr;go_wp2
 exact bodyPost_ret (v:=sv r) (by simp [results,Tryz.results145,go_sem, *]) rfl ⟨by rw [Hr.out],(((HR1.setCell (by simp) _).setCell (by simp) _).setCell (by simp) _).setCell (by simp) _⟩
theorem zeq (w:World) :
  Cl 143 #[] w (rB w (sv (spn 65 90 ||| spn 97 122))):=by
 have HH:=hO (Holds.zero w);have HR:=hO (zaN w z4);have HQ:Hid (Below (w.heap.size+1) (w.alloc z4) (w.alloc z4)):=bR _ _;go_enter Tryz.func143,Tryz.ntmps143;go_wp2_with fail;refine (zaE 65 90 _ (by omega) (by omega) (by omega)).mono ?_;rintro e w1 ⟨rfl,hb⟩
 replace HQ:=(show Hid _ from HQ.trans (hb.mono (by first | exact HQ.size | (have h:=HQ.size;simp at h;omega) | simp)))
 go_wp2_with fail;refine (zcY _ 97 122 _ (by omega) (by omega) (by omega)).mono ?_;rintro e w1 ⟨rfl,hb⟩
 replace HQ:=(show Hid _ from HQ.trans (hb.mono (by first | exact HQ.size | (have h:=HQ.size;simp at h;omega) | simp)))
 have HR1:=hO (HR.trans (HQ.mono (by omega)));obtain ⟨l0,c0,c1,c2,c3,f0,f1,f2,f3⟩:=HH.below HQ (by omega);generalize hr:spn 65 90 ||| spn 97 122=r;have Hr:=hO hr;clear hr;go_wp2
 exact bodyPost_ret (v:=sv r) (by simp [results,Tryz.results143,go_sem, *]) rfl ⟨by rw [Hr.out],(((HR1.setCell (by simp) _).setCell (by simp) _).setCell (by simp) _).setCell (by simp) _⟩
theorem zcg (w:World) :
  Cl 147 #[] w (rB w (sv (spn 65 90 ||| spn 97 122 ||| spn 48 57))):=by
 have HH:=hO (Holds.zero w);have HR:=hO (zaN w z4);have HQ:Hid (Below (w.heap.size+1) (w.alloc z4) (w.alloc z4)):=bR _ _;go_enter Tryz.func147,Tryz.ntmps147;go_wp2_with fail;refine (zeq _).mono ?_;rintro e w1 ⟨rfl,hb⟩
 replace HQ:=(show Hid _ from HQ.trans (hb.mono (by first | exact HQ.size | (have h:=HQ.size;simp at h;omega) | simp)))
 go_wp2_with fail;refine (zcY _ 48 57 _ (by omega) (by omega) (by omega)).mono ?_;rintro e w1 ⟨rfl,hb⟩
 replace HQ:=(show Hid _ from HQ.trans (hb.mono (by first | exact HQ.size | (have h:=HQ.size;simp at h;omega) | simp)))
 have HR1:=hO (HR.trans (HQ.mono (by omega)));obtain ⟨l0,c0,c1,c2,c3,f0,f1,f2,f3⟩:=HH.below HQ (by omega);generalize hr:spn 65 90 ||| spn 97 122 ||| spn 48 57=r;have Hr:=hO hr;clear hr;go_wp2
 exact bodyPost_ret (v:=sv r) (by simp [results,Tryz.results147,go_sem, *]) rfl ⟨by rw [Hr.out],(((HR1.setCell (by simp) _).setCell (by simp) _).setCell (by simp) _).setCell (by simp) _⟩
def zaQ (b:Int):Bool:=(b==92)||((b==93)||((b==91)||((b==94)||((b==45)||(b==37)))))
def zhw (b:Int):Bool:=decide (32<=b)&&decide (b<=126)
theorem zcH (b:Int) (w:World) :
  Cl 171 #[.int .i64 b] w (rU w (.bool (zhw b))):=by
 by_cases h0:32<=b
 ·have hd:decide (32<=b)=true:=by simpa using h0
  go_enter Tryz.func171,Tryz.ntmps171;go_wp2
  go_ret
  exact ⟨by simp [zhw,h0],rfl⟩
 ·have hd:decide (32<=b)=false:=by simpa using h0
  go_enter Tryz.func171,Tryz.ntmps171;go_wp2
  go_ret
  exact ⟨by unfold zhw;rw [hd];rfl,rfl⟩
theorem ze7 (b:Int) (w:World) :
  Cl 176 #[.int .i64 b] w (rU w (.bool (zaQ b))):=by
 cases h1:(b==92)
 ·cases h2:(b==93)
  ·cases h3:(b==91)
   ·cases h4:(b==94)
    ·cases h5:(b==45)
     ·cases h6:(b==37)
      ·have HE:Hid (zaQ b=false):=(by show zaQ b=false;unfold zaQ;rw [h1,h2,h3,h4,h5,h6];rfl)
       go_enter Tryz.func176,Tryz.ntmps176;go_wp2
       go_ret
       exact ⟨zaD HE.symm,rfl⟩
      ·have HE:Hid (zaQ b=true):=(by show zaQ b=true;unfold zaQ;rw [h1,h2,h3,h4,h5,h6];rfl)
       go_enter Tryz.func176,Tryz.ntmps176;go_wp2
       go_ret
       exact ⟨zaD HE.symm,rfl⟩
     ·have HE:Hid (zaQ b=true):=(by show zaQ b=true;unfold zaQ;rw [h5];simp)
      go_enter Tryz.func176,Tryz.ntmps176;go_wp2
      go_ret
      exact ⟨zaD HE.symm,rfl⟩
    ·have HE:Hid (zaQ b=true):=(by show zaQ b=true;unfold zaQ;rw [h4];simp)
     go_enter Tryz.func176,Tryz.ntmps176;go_wp2
     go_ret
     exact ⟨zaD HE.symm,rfl⟩
   ·have HE:Hid (zaQ b=true):=(by show zaQ b=true;unfold zaQ;rw [h3];simp)
    go_enter Tryz.func176,Tryz.ntmps176;go_wp2
    go_ret
    exact ⟨zaD HE.symm,rfl⟩
  ·have HE:Hid (zaQ b=true):=(by show zaQ b=true;unfold zaQ;rw [h2];simp)
   go_enter Tryz.func176,Tryz.ntmps176;go_wp2
   go_ret
   exact ⟨zaD HE.symm,rfl⟩
 ·have HE:Hid (zaQ b=true):=(by show zaQ b=true;unfold zaQ;rw [h1];simp)
  go_enter Tryz.func176,Tryz.ntmps176;go_wp2
  go_ret
  exact ⟨zaD HE.symm,rfl⟩
def sml (n:Nat):BitVec 256×Int :=
 if n=97 then (spn 65 90 ||| spn 97 122,0) else
 if n=99 then (spn 0 31 ||| bt 127,0) else
 if n=100 then (spn 48 57,0) else
 if n=103 then (spn 33 126,0) else
 if n=108 then (spn 97 122,0) else
 if n=112 then (spn 33 126 &&& ~~~ (spn 65 90 ||| spn 97 122 ||| spn 48 57),0) else
 if n=115 then (spn 9 13 ||| bt 32,0) else
 if n=117 then (spn 65 90,0) else
 if n=119 then (spn 65 90 ||| spn 97 122 ||| spn 48 57,0) else
 if n=120 then (spn 48 57 ||| spn 65 70 ||| spn 97 102,0) else
 (0#256,10)
theorem znJ:sml 97=(spn 65 90 ||| spn 97 122,0):=by unfold sml;rw [iP rfl]
theorem znK:sml 99=(spn 0 31 ||| bt 127,0):=by unfold sml;rw [iN (by omega),iP rfl]
theorem zi1:sml 100=(spn 48 57,0):=by unfold sml;rw [iN (by omega),iN (by omega),iP rfl]
theorem zi2:sml 103=(spn 33 126,0):=by unfold sml;rw [iN (by omega),iN (by omega),iN (by omega),iP rfl]
theorem zi3:sml 108=(spn 97 122,0):=by unfold sml;rw [iN (by omega),iN (by omega),iN (by omega),iN (by omega),iP rfl]
theorem zi4:sml 112=(spn 33 126 &&& ~~~ (spn 65 90 ||| spn 97 122 ||| spn 48 57),0):=by unfold sml;rw [iN (by omega),iN (by omega),iN (by omega),iN (by omega),iN (by omega),iP rfl]
theorem zi5:sml 115=(spn 9 13 ||| bt 32,0):=by unfold sml;rw [iN (by omega),iN (by omega),iN (by omega),iN (by omega),iN (by omega),iN (by omega),iP rfl]
theorem zi6:sml 117=(spn 65 90,0):=by unfold sml;rw [iN (by omega),iN (by omega),iN (by omega),iN (by omega),iN (by omega),iN (by omega),iN (by omega),iP rfl]
theorem zi7:sml 119=(spn 65 90 ||| spn 97 122 ||| spn 48 57,0):=by unfold sml;rw [iN (by omega),iN (by omega),iN (by omega),iN (by omega),iN (by omega),iN (by omega),iN (by omega),iN (by omega),iP rfl]
theorem zi8:sml 120=(spn 48 57 ||| spn 65 70 ||| spn 97 102,0):=by unfold sml;rw [iN (by omega),iN (by omega),iN (by omega),iN (by omega),iN (by omega),iN (by omega),iN (by omega),iN (by omega),iN (by omega),iP rfl]
theorem zfv (n:Nat) (h97:n≠97) (h99:n≠99) (h100:n≠100) (h103:n≠103) (h108:n≠108) (h112:n≠112) (h115:n≠115) (h117:n≠117) (h119:n≠119) (h120:n≠120):sml n=(0#256,10):=by unfold sml;rw [iN h97,iN h99,iN h100,iN h103,iN h108,iN h112,iN h115,iN h117,iN h119,iN h120]
def cls (n:Nat):BitVec 256×Int :=
 if 65<=n/\n<=90 then (if (sml (n+32)).2=0 then (~~~ (sml (n+32)).1,0) else (0#256,(sml (n+32)).2)) else sml n
theorem zdN (n:Nat):(sml n).2=0∨(sml n).2=10:=by
 by_cases h97:n=97
 ·rw [h97,znJ];exact .inl rfl
 by_cases h99:n=99
 ·rw [h99,znK];exact .inl rfl
 by_cases h100:n=100
 ·rw [h100,zi1];exact .inl rfl
 by_cases h103:n=103
 ·rw [h103,zi2];exact .inl rfl
 by_cases h108:n=108
 ·rw [h108,zi3];exact .inl rfl
 by_cases h112:n=112
 ·rw [h112,zi4];exact .inl rfl
 by_cases h115:n=115
 ·rw [h115,zi5];exact .inl rfl
 by_cases h117:n=117
 ·rw [h117,zi6];exact .inl rfl
 by_cases h119:n=119
 ·rw [h119,zi7];exact .inl rfl
 by_cases h120:n=120
 ·rw [h120,zi8];exact .inl rfl
 rw [zfv n h97 h99 h100 h103 h108 h112 h115 h117 h119 h120];exact .inr rfl
def chr (s:ByteArray) (i:Nat):Int:=if h:i<s.size then (s[i].toNat:Int) else -1
theorem zam {s:ByteArray} {i:Nat} (h:i<s.size):chr s i=(s[i].toNat:Int):=by unfold chr;rw [dif_pos h]
theorem zau {s:ByteArray} {i:Nat} (h:¬i<s.size):chr s i = -1:=by unfold chr;rw [dif_neg h]
theorem zbi (s:ByteArray) (i:Nat):-1<=chr s i/\chr s i<=255:=by
 unfold chr
 split
 ·have:=s[i].toNat_lt;omega
 ·omega
theorem zaB {s:ByteArray} {i:Nat} (h:0<=chr s i):i<s.size:=by
 by_cases hi:i<s.size
 ·exact hi
 ·rw [zau hi] at h;omega
def zaI (c:Int):Int:=if 48<=c/\c<=57 then c - 48 else if 97<=c/\c<=102 then c - 87 else -1
def zbh (s:ByteArray) (i:Nat):Option (Nat×Nat) :=
 if 0<=zaI (chr s (i+2))/\0<=zaI (chr s (i+3)) then some ((16 * zaI (chr s (i+2))+zaI (chr s (i+3))).toNat,i+4) else none
def zaJ (s:ByteArray) (i:Nat):Option (Nat×Nat) :=
 if chr s (i+1)=110 then some (10,i+2) else if chr s (i+1)=114 then some (13,i+2) else if chr s (i+1)=116 then some (9,i+2) else
 if chr s (i+1)=120 then zbh s i else if zaQ (chr s (i+1)) then some ((chr s (i+1)).toNat,i+2) else none
def zak (s:ByteArray) (i:Nat):Option (Nat×Nat) :=
 if chr s i=92 then zaJ s i else if chr s i=93∨chr s i=45∨chr s i=37∨zhw (chr s i)=false then none else some ((chr s i).toNat,i+1)
abbrev Rd (α:Type):=Sum α (Nat×Int)
def zaW (s:ByteArray) (i:Nat):Rd (BitVec 256×Nat) :=
 if i+1<s.size/\(cls (chr s (i+1)).toNat).2=0 then .inl ((cls (chr s (i+1)).toNat).1,i+2) else .inr (i,10)
def zab (s:ByteArray) (i:Nat):Rd (BitVec 256×Nat) :=
 if chr s i=37 then zaW s i else
 match zak s i with
 | none=>.inr (i,6)
 | some (lo,n) =>
  if chr s n=45 then
   match zak s (n+1) with
   | none=>.inr ((n+1),6)
   | some (hi,e)=>if hi<lo then .inr (i,1) else .inl (spn lo hi,e)
  else .inl (spn lo lo,n)
def zag (s:ByteArray):Nat->BitVec 256->Nat->Rd (BitVec 256×Nat)
 | 0,_,i=>.inr (i,6)
 | f+1,x,i =>
  if chr s i=93 then .inl (x,i) else
  match zab s i with
  | .inr (a,c)=>.inr (a,c)
  | .inl (y,n)=>zag s f (x ||| y) n
theorem zbj (c:Int):-1<=zaI c/\zaI c<=15:=by unfold zaI;split;omega;split <;> omega
theorem zeg {s:ByteArray} {i:Nat} (h:0<=zaI (chr s i)):i<s.size:=by
 by_cases hi:i<s.size
 ·exact hi
 ·rw [zau hi] at h;simp [zaI] at h
theorem zfw {s:ByteArray} {i b n:Nat} (h:zbh s i=some (b,n)):b<256/\i<n/\n<=s.size:=by
 unfold zbh at h
 split at h
 ·rename_i hh
  have h1:=zbj (chr s (i+2));have h2:=zbj (chr s (i+3));have h3:=zeg hh.2
  simp at h;omega
 ·simp at h
theorem zfx {s:ByteArray} {i b n:Nat} (h:zaJ s i=some (b,n)):b<256/\i<n/\n<=s.size:=by
 unfold zaJ at h;have hc:=zbi s (i+1);by_cases hi:i+1<s.size
 ·split at h;(simp at h;omega)
  split at h;(simp at h;omega)
  split at h;(simp at h;omega)
  split at h;(exact zfw h)
  split at h
  ·simp at h;omega
  ·simp at h
 ·rw [zau hi] at h;simp [zaQ] at h
theorem zba {s:ByteArray} {i b n:Nat} (h:zak s i=some (b,n)):b<256/\i<n/\n<=s.size:=by
 unfold zak at h
 split at h
 ·exact zfx h
 ·split at h
  ·simp at h
  ·rename_i h1
   have hc:=zbi s i;have hi:i<s.size:=by
    by_cases hi:i<s.size
    ·exact hi
    ·rw [zau hi] at h1;simp [zhw] at h1
   simp at h;omega
theorem zdf {s:ByteArray} {i n:Nat} {y:BitVec 256} (h:zab s i=.inl (y,n)):i<n/\n<=s.size:=by
 unfold zab at h
 split at h
 ·unfold zaW at h
  split at h
  ·simp at h;omega
  ·simp at h
 ·split at h
  ·simp at h
  ·rename_i lo m hm
   have b1:=zba hm
   split at h
   ·split at h
    ·simp at h
    ·rename_i hi e he
     have b2:=zba he
     split at h
     ·simp at h
     ·simp at h;omega
   ·simp at h;omega
def dgB (c:Int):Bool:=decide (48<=c)&&decide (c<=57)
def hdB (c:Int):Bool:=(decide (97<=c)&&decide (c<=122))||(decide (65<=c)&&decide (c<=90))||c==95
def nmB (c:Int):Bool:=hdB c||dgB c
def spGo (P:Int->Bool) (s:ByteArray):Nat->Nat->Nat
 | 0,i=>i
 | m+1,i=>if P (chr s i) then spGo P s m (i+1) else i
def spN (P:Int->Bool) (s:ByteArray) (i:Nat):Nat:=spGo P s (s.size - i) i
theorem zbo {P:Int->Bool} {s:ByteArray} {i:Nat} (h:P (chr s i)=false):spN P s i=i:=by
 unfold spN
 cases s.size - i with
 | zero=>rfl
 | succ m=>rw [spGo,h];rfl
theorem za8 {P:Int->Bool} {s:ByteArray} {i:Nat} (hn:P (-1)=false) (h:P (chr s i)=true):i<s.size/\spN P s i=spN P s (i+1):=by
 have hi:i<s.size:=by
  by_cases q:i<s.size
  ·exact q
  ·rw [zau (by omega),hn] at h;cases h
 refine ⟨hi,?_⟩;unfold spN;rw [show s.size - i=(s.size - (i+1))+1 from by omega,spGo,h];rfl
theorem zbX (P:Int->Bool) (s:ByteArray) (hn:P (-1)=false):∀d i,s.size - i=d->i<=spN P s i/\(i<=s.size->spN P s i<=s.size)/\P (chr s (spN P s i))=false/\∀k,i<=k->k<spN P s i->P (chr s k)=true:=by
 intro d
 induction d with
 | zero =>
  intro i hi;have h:P (chr s i)=false:=by rw [zau (by omega)];exact hn
  rw [zbo h];exact ⟨nL _,fun q=>q,h,fun k h1 h2=>by omega⟩
 | succ d ih =>
  intro i hi
  cases h:P (chr s i) with
  | false=>rw [zbo h];exact ⟨nL _,fun q=>q,h,fun k h1 h2=>by omega⟩
  | true =>
   obtain ⟨h1,h2⟩:=za8 hn h;obtain ⟨i1,i2,i3,i4⟩:=ih (i+1) (by omega);rw [h2];refine ⟨by omega,fun _=>i2 (by omega),i3,fun k k1 k2=>?_⟩;by_cases e:k=i
   ·subst e;exact h
   ·exact i4 k (by omega) k2
theorem zbe (P:Int->Bool) (s:ByteArray) (hn:P (-1)=false) (i:Nat):i<=spN P s i:=(zbX P s hn _ i rfl).1
theorem zbF (P:Int->Bool) (s:ByteArray) (hn:P (-1)=false) (i:Nat) (h:i<=s.size):spN P s i<=s.size:=(zbX P s hn _ i rfl).2.1 h
def zaF (s:ByteArray) (i:Nat) (base:Int):Nat->Int
 | 0=>0
 | k+1=>zaF s i base k * base+zaI (chr s (i+k))
theorem zi9 (s:ByteArray) (i:Nat) (base:Int) (hb:0<=base/\base<=16):∀k,-(16 ^ k:Int)<=zaF s i base k - 1/\zaF s i base k+1<=(16 ^ k:Int):=by
 intro k
 induction k with
 | zero=>simp [zaF]
 | succ k ih =>
  have h:=zbj (chr s (i+k));have h16:(16:Int) ^ (k+1)=16 ^ k * 16:=by rw [Int.pow_succ]
  rw [zaF,h16];generalize zaF s i base k=x at *;generalize (16:Int) ^ k=p at *;have hp:(1:Int)<=p:=by omega
  constructor
  ·by_cases hx:0<=x
   ·have:0<=x * base:=Int.mul_nonneg hx hb.1
    omega
   ·have h1:x * base ≥ x * 16:=by
     have:(-x) * base<=(-x) * 16:=Int.mul_le_mul_of_nonneg_left hb.2 (by omega);rw [Int.neg_mul,Int.neg_mul] at this;omega
    omega
  ·by_cases hx:0<=x
   ·have h1:x * base<=x * 16:=Int.mul_le_mul_of_nonneg_left hb.2 hx
    omega
   ·have h1:x * base<=0:=by
     have:0<=(-x) * base:=Int.mul_nonneg (by omega) hb.1;rw [Int.neg_mul] at this;omega
    omega
theorem zgE {s:ByteArray} {a b k:Nat} (h:a+k<b) (hb:b<=s.size):chr (s.extract a b) k=chr s (a+k):=by
 have h1:k<(s.extract a b).size:=by rw [ByteArray.size_extract];omega
 rw [zam h1,zam (show a+k<s.size by omega)]
 congr 2
 exact ByteArray.getElem_extract h1
theorem zcr {s:ByteArray} {a b:Nat} {base:Int} (hb:b<=s.size):∀k,a+k<=b->zaF (s.extract a b) 0 base k=zaF s a base k:=by
 intro k
 induction k with
 | zero=>intro _;rfl
 | succ k ih =>
  intro h;rw [zaF,zaF,ih (by omega),Nat.zero_add,zgE (by omega) hb]
def zbR (s:ByteArray) (i:Nat) (most:Int):Sum Int Int :=
 if spN dgB s i - i=0∨(1<spN dgB s i - i/\chr s i=48) then .inr 50
 else if 6<spN dgB s i - i∨most<zaF s i 10 (spN dgB s i - i) then .inr 1
 else .inl (zaF s i 10 (spN dgB s i - i))
structure Tk where
 kd:Int
 nn:Int
 fr:Int
 en:Int
 tx:ByteArray
 s0:Int
 s1:Int
 s2:Int
 s3:Int
abbrev tkG (t:Tk):Value:=.agg #[.int .i64 t.kd,.int .i64 t.nn,.int .i64 t.fr,.int .i64 t.en,.string t.tx,.int .u64 t.s0,.int .u64 t.s1,.int .u64 t.s2,.int .u64 t.s3]
def tk0:Tk:=⟨0,0,0,0,⟨#[]⟩,0,0,0,0⟩
def zcB (s:ByteArray) (i:Nat):Option (Nat×Nat) :=
 if chr s (i+1)=110 then some (10,i+2) else if chr s (i+1)=114 then some (13,i+2) else if chr s (i+1)=116 then some (9,i+2)
 else if chr s (i+1)=92∨chr s (i+1)=39∨chr s (i+1)=34 then some ((chr s (i+1)).toNat,i+2)
 else if chr s (i+1)=120/\0<=zaI (chr s (i+2))/\0<=zaI (chr s (i+3)) then some ((16 * zaI (chr s (i+2))+zaI (chr s (i+3))).toNat,i+4)
 else none
def zbz (s:ByteArray) (q:Int) (b:Nat):Nat->List Int->Nat->Sum Tk (Nat×Int)
 | 0,_,_=>.inr (b,52)
 | f+1,out,i =>
  if chr s i<0 then .inr (b,52) else if chr s i=q then (if 255<out.length then .inr (b,2) else .inl ⟨2,0,b,i+1,zat out,0,0,0,0⟩)
  else if chr s i<32∨chr s i=127 then .inr (i,50) else if chr s i≠92 then zbz s q b f (out++[chr s i]) (i+1)
  else match zcB s i with
   | none=>.inr (i,51)
   | some (c,n)=>zbz s q b f (out++[(c:Int)]) n
def zbY (s:ByteArray) (b:Nat):Sum Tk (Nat×Int):=zbz s (chr s b) b (s.size+1) [] (b+1)
def hx7 (s:ByteArray) (i:Nat):Nat->Nat
 | 0=>i
 | k+1=>if 0<=zaI (chr s i) then hx7 s (i+1) k else i
def zbV (s:ByteArray) (i:Nat):Nat:=hx7 s i 7
def zbZ (s:ByteArray) (b:Nat):Sum Tk (Nat×Int) :=
 let f1:=b+3
 let e1:=zbV s f1
 let f2:=if chr s e1=45 then e1+1 else f1
 let e2:=if chr s e1=45 then zbV s (e1+1) else e1
 if e1=f1∨f1+6<e1∨e2=f2∨f2+6<e2∨chr s e2≠125 then .inr (b,30)
 else if zaF s f2 16 (e2 - f2)<zaF s f1 16 (e1 - f1)∨1114111<zaF s f2 16 (e2 - f2) then .inr (b,30)
 else .inl ⟨5,zaF s f1 16 (e1 - f1),b,e2+1,⟨#[]⟩,zaF s f2 16 (e2 - f2),0,0,0⟩
def zdE (s:ByteArray) (b:Nat):Sum Tk (Nat×Int) :=
 if chr s (b+1)=117/\chr s (b+2)=123 then zbZ s b else if chr s (b+1)=101 then .inl ⟨29,0,b,b+2,⟨#[]⟩,0,0,0,0⟩ else if chr s (b+1)=102 then .inl ⟨30,0,b,b+2,⟨#[]⟩,0,0,0,0⟩
 else if 0<=chr s (b+1)/\(cls (chr s (b+1)).toNat).2=0 then .inl ⟨28,0,b,b+2,s.extract (b+1) (b+2),wd (cls (chr s (b+1)).toNat).1 0,wd (cls (chr s (b+1)).toNat).1 1,wd (cls (chr s (b+1)).toNat).1 2,wd (cls (chr s (b+1)).toNat).1 3⟩ else .inr (b,10)
def zea (s:ByteArray) (b:Nat):Sum Tk (Nat×Int) :=
 let k:Int:=if chr s (b+1)=43 then 14 else if chr s (b+1)=45 then 15 else 13
 let f:=if chr s (b+1)=43∨chr s (b+1)=45 then b+2 else b+1
 match zbR s f 50 with
 | .inr e=>.inr (b,e)
 | .inl n=>.inl ⟨k,n,b,spN dgB s f,⟨#[]⟩,0,0,0,0⟩
def ze8 (s:ByteArray) (b:Nat):Sum Tk (Nat×Int) :=
 if hdB (chr s (b+2))=true/\chr s (spN nmB s (b+2))=58 then
  (if 32<spN nmB s (b+2) - b - 2 then .inr (b+2,2) else .inl ⟨21,0,b,spN nmB s (b+2)+1,s.extract (b+2) (spN nmB s (b+2)),0,0,0,0⟩)
 else .inl ⟨21,0,b,b+2,⟨#[]⟩,0,0,0,0⟩
end Go.Proofs.YtkihfkcmcdiajabGreatDoor
namespace Go.Proofs.YtkihfkcmcdiajabGreatDoor.T
open Go.RowKit
def dgB (c:Int):Bool:=decide (48<=c)&&decide (c<=57)
def ltB (c:Int):Bool:=(decide (97<=c)&&decide (c<=122))||(decide (65<=c)&&decide (c<=90))
def nmC (c:Int):Bool:=dgB c||ltB c||c==95
def NmP (s:ByteArray):Prop:=0<s.size/\s.size<=32/\(∀h:0<s.size,dgB (s[0].toNat:Int)=false)/\∀(j:Nat) (h:j<s.size),nmC (s[j].toNat:Int)=true
def decNm (s:ByteArray):Decidable (NmP s):=by unfold NmP;exact inferInstance
def nmB (s:ByteArray):Bool:=@decide (NmP s) (decNm s)
theorem nmB_t {s:ByteArray} (h:NmP s):nmB s=true:=by unfold nmB;exact @decide_eq_true _ (decNm _) h
theorem zf0 {s:ByteArray} (h:¬NmP s):nmB s=false:=by unfold nmB;exact @dF _ (decNm _) h
def zeb (s:ByteArray):Nat->Nat->Bool
 | 0,_=>true
 | m+1,i=>if h:i<s.size then (if (s[i].toNat:Int)=37 then (if h2:i+1<s.size then (if (s[i+1].toNat:Int)=37∨dgB (s[i+1].toNat:Int)=true then zeb s m (i+2) else false) else false) else zeb s m (i+1)) else true
def tmB (s:ByteArray):Bool:=if s.size<=255 then zeb s s.size 0 else false
structure Nd where
 op:Int
 nn:Int
 tx:ByteArray
 s0:Int
 s1:Int
 s2:Int
 s3:Int
def ar (op:Int):Int:=if op<1∨23<op then -1 else if op<=6∨op=17 then 0 else if op=7∨op=8 then 2 else 1
theorem ar_hi (op:Int):ar op<=2:=by
 unfold ar;split
 ·omega
 ·split
  ·omega
  ·split <;> omega
def txF (op:Int) (tx:ByteArray):Bool:=if op=4 then decide (1<=tx.size/\tx.size<=255) else if op=6 then nmB tx else if op=19 then decide (tx.size=0)||nmB tx else if op=22 then tmB tx else decide (tx.size=0)
def nuF (op nn:Int):Bool:=if op=14∨op=15∨op=16∨op=23 then decide (0<=nn/\nn<=50) else decide (nn=0)
def seF (op a b c d:Int):Bool:=if op=5 then true else decide (a=0/\b=0/\c=0/\d=0)
def fdF (n:Nd):Bool:=txF n.op n.tx&&nuF n.op n.nn&&seF n.op n.s0 n.s1 n.s2 n.s3
def alE (n:Nd):Int:=if ar n.op<0 then 40 else if fdF n then 0 else 41
abbrev ndG (n:Nd):Value:=.agg #[.int .i64 n.op,.int .i64 n.nn,.string n.tx,.int .u64 n.s0,.int .u64 n.s1,.int .u64 n.s2,.int .u64 n.s3]
def ndV (n:Nd):List Value:=[.int .i64 n.op,.int .i64 n.nn,.string n.tx,.int .u64 n.s0,.int .u64 n.s1,.int .u64 n.s2,.int .u64 n.s3]
def ndc (l:List Nd):List Value:=l.flatMap ndV
theorem zch (a b:List Nd):ndc (a++b)=ndc a++ndc b:=List.flatMap_append
theorem zdO (n:Nd):ndc [n]=ndV n:=by unfold ndc;rw [List.flatMap_cons,List.flatMap_nil,List.append_nil]
theorem zgF (l:List Nd):(ndc l).length=l.length * 7:=by
 induction l with
 | nil=>rfl
 | cons a l ih=>show (ndV a++ndc l).length=_;rw [lA,ih,List.length_cons];show 7+_=_;omega
theorem zer {s:ByteArray} (h:s.size=0):s.toList.isEmpty=true:=by
 obtain ⟨d⟩:=s;have h2:d.size=0:=h;rw [ByteArray.toList_eq,Array.eq_empty_of_size_eq_zero h2];rfl
theorem zdP {s:ByteArray} (h:¬s.size=0):s.toList.isEmpty=false:=by
 obtain ⟨d⟩:=s;have h2:¬d.toList.length=0:=h;rw [ByteArray.toList_eq]
 show d.toList.isEmpty=false
 cases hd:d.toList with
 | nil=>rw [hd] at h2;exact absurd rfl h2
 | cons a b=>rfl
theorem zaD {a b:Bool} (h:a=b):Ending.returned (.bool a)=.returned (.bool b):=by rw [h]
end Go.Proofs.YtkihfkcmcdiajabGreatDoor.T
namespace Go.Proofs.YtkihfkcmcdiajabGreatDoor.N
open Go.RowKit
abbrev Nd:=T.Nd
def nd0 (op:Int):Nd:=⟨op,0,⟨#[]⟩,0,0,0,0⟩
structure PE where
 l:List Tk
 rn:Int->Int->List Nd
 tm:ByteArray->Bool
def kdA (E:PE) (i:Nat):Int:=match E.l[i]? with
 | some t=>t.kd
 | none=>0
def tkA (E:PE) (i:Nat):Tk:=(E.l[i]?).getD tk0
def bgK (k:Int):Bool:=k==8||k==9||k==2||k==3||k==28||k==5||k==18||k==29||k==30||k==16||k==19||k==21||k==23||k==25
def bgn (E:PE) (i:Nat):Bool:=bgK (kdA E i)||(kdA E i==1&&!(kdA E (i+1)==6))
abbrev PR:=Sum (Nat×List Nd) (Nat×Int)
def bnd (r:PR) (f:Nat->List Nd->PR):PR:=match r with
 | .inl p=>f p.1 p.2
 | .inr q=>.inr q
def ahd (ns:List Nd) (r:PR):PR:=match r with
 | .inl p=>.inl (p.1,ns++p.2)
 | .inr q=>.inr q
def zja (tm:ByteArray->Bool) (t u:Tk) (k k2:Int):Sum (Nd×Nat) (Option Int) :=
  if k=10 then .inl (nd0 11,1) else if k=11 then .inl (nd0 9,1) else if k=12 then .inl (nd0 10,1)
  else if k=13 then .inl (⟨14,t.nn,⟨#[]⟩,0,0,0,0⟩,1) else if k=14 then .inl (⟨15,t.nn,⟨#[]⟩,0,0,0,0⟩,1)
  else if k=15 then .inl (⟨16,t.nn,⟨#[]⟩,0,0,0,0⟩,1)
  else if k=27 then
    (if k2=2 then (if tm u.tx then .inl (⟨22,0,u.tx,0,0,0,0⟩,2) else .inr (some 61))
     else if k2=4 then (if 50<u.nn then .inr (some 1) else .inl (⟨23,u.nn,⟨#[]⟩,0,0,0,0⟩,2))
     else .inr (some 60))
  else .inr none
def zgG (E:PE) (i:Nat):Sum (Nd×Nat) (Option Int):=zja E.tm (tkA E i) (tkA E (i+1)) (kdA E i) (kdA E (i+1))
def zb2 (rn:Int->Int->List Nd) (t:Tk) (k2:Int):Sum (List Nd×Nat) (Int×List Nd) :=
 if t.kd=2 then .inl (if t.tx.size=0 then [nd0 1] else [⟨4,0,t.tx,0,0,0,0⟩],1)
 else if t.kd=3∨t.kd=28 then .inl ([⟨5,0,⟨#[]⟩,t.s0,t.s1,t.s2,t.s3⟩],1)
 else if t.kd=5 then .inl (rn t.nn t.s0,1)
 else if t.kd=18 then .inl ([nd0 3],1) else if t.kd=29 then .inl ([nd0 1],1) else if t.kd=30 then .inl ([nd0 2],1)
 else if t.kd=1 then .inl ([⟨6,0,t.tx,0,0,0,0⟩],1)
 else if t.kd=16 then .inr (17,[])
 else if t.kd=19 then (if k2=20 then .inl ([nd0 17],2) else .inr (20,[nd0 18]))
 else if t.kd=21 then .inr (22,[⟨19,0,t.tx,0,0,0,0⟩])
 else if t.kd=23 then .inr (24,[nd0 20]) else .inr (26,[nd0 21])
def zbw (E:PE) (i:Nat):Sum (List Nd×Nat) (Int×List Nd):=zb2 E.rn (tkA E i) (kdA E (i+1))
def PF (E:PE):Nat->Nat->Nat->Nat->PR
  | 0,_,_,_=>.inr (0,-1)
  | f+1,m,i,d =>
    if m=0 then bnd (PF E f 2 i d) fun a ns=>ahd ns (PF E f 1 a d)
    else if m=1 then (if kdA E i=7 then bnd (PF E f 2 (i+1) d) fun a ns=>ahd (ns++[nd0 8]) (PF E f 1 a d) else .inl (i,[]))
    else if m=2 then bnd (PF E f 4 i d) fun a ns=>ahd ns (PF E f 3 a d)
    else if m=3 then (if bgn E i=true then bnd (PF E f 4 i d) fun a ns=>ahd (ns++[nd0 7]) (PF E f 3 a d) else .inl (i,[]))
    else if m=4 then
      (if bgn E i=true then
        (if kdA E i=8∨kdA E i=9 then (if 240<=d then .inr (i,4) else bnd (PF E f 4 (i+1) (d+1)) fun a ns=>.inl (a,ns++[nd0 (if kdA E i=8 then 12 else 13)]))
         else bnd (PF E f 5 i d) fun a ns=>ahd ns (PF E f 6 a d))
       else .inr (i,60))
    else if m=5 then
      (match zbw E i with
       | .inl p=>.inl (i+p.2,p.1)
       | .inr p=>if 240<=d then .inr (i,4) else bnd (PF E f 0 (i+1) (d+1)) fun a ms=>if kdA E a=p.1 then .inl (a+1,ms++p.2) else .inr (a,60))
    else (match zgG E i with
       | .inr none=>.inl (i,[])
       | .inr (some c)=>.inr (i+1,c)
       | .inl p=>ahd [p.1] (PF E f 6 (i+p.2) d))
theorem za9 {E:PE} {i:Nat} (h:¬kdA E i=0):i<E.l.length:=by
 unfold kdA at h;by_cases q:i<E.l.length
 ·exact q
 ·rw [List.getElem?_eq_none (by omega)] at h;exact absurd rfl h
theorem zc6 {E:PE} {i:Nat} (h:bgn E i=true):i<E.l.length:=by
 apply za9
 intro q;unfold bgn bgK at h;rw [q] at h;simp at h
theorem zaO {r:PR} {f:Nat->List Nd->PR} {x:Nat×List Nd} (h:bnd r f=.inl x):∃a ns,r=.inl (a,ns)/\f a ns=.inl x:=by
 cases r with
 | inl p=>exact ⟨p.1,p.2,rfl,h⟩
 | inr q=>cases h
theorem zaZ {ns:List Nd} {r:PR} {x:Nat×List Nd} (h:ahd ns r=.inl x):∃ms,r=.inl (x.1,ms)/\x.2=ns++ms:=by
 cases r with
 | inl p=>cases h;exact ⟨p.2,rfl,rfl⟩
 | inr q=>cases h
theorem sufK_n {tm:ByteArray->Bool} {t u:Tk} {k k2:Int} {p:Nd×Nat} (h:zja tm t u k k2=.inl p):(p.2=1/\¬k=0)∨(p.2=2/\¬k2=0):=by
 unfold zja at h;by_cases h0:k=10
 ·rw [iP h0] at h;cases h;exact .inl ⟨rfl,by omega⟩
 rw [iN h0] at h;by_cases h1:k=11
 ·rw [iP h1] at h;cases h;exact .inl ⟨rfl,by omega⟩
 rw [iN h1] at h;by_cases h2:k=12
 ·rw [iP h2] at h;cases h;exact .inl ⟨rfl,by omega⟩
 rw [iN h2] at h;by_cases h3:k=13
 ·rw [iP h3] at h;cases h;exact .inl ⟨rfl,by omega⟩
 rw [iN h3] at h;by_cases h4:k=14
 ·rw [iP h4] at h;cases h;exact .inl ⟨rfl,by omega⟩
 rw [iN h4] at h;by_cases h5:k=15
 ·rw [iP h5] at h;cases h;exact .inl ⟨rfl,by omega⟩
 rw [iN h5] at h;by_cases h7:k=27
 ·rw [iP h7] at h
  by_cases h8:k2=2
  ·rw [iP h8] at h
   split at h
   ·cases h;exact .inr ⟨rfl,by omega⟩
   ·cases h
  ·rw [iN h8] at h
   by_cases h9:k2=4
   ·rw [iP h9] at h
    split at h
    ·cases h
    ·cases h;exact .inr ⟨rfl,by omega⟩
   ·rw [iN h9] at h;cases h
 ·rw [iN h7] at h;cases h
theorem zhx {E:PE} {i:Nat} {p:Nd×Nat} (h:zgG E i=.inl p):0<p.2/\i+p.2<=E.l.length:=by
 rcases sufK_n h with ⟨h1,h2⟩ | ⟨h1,h2⟩
 ·have:=za9 h2;omega
 ·have:=za9 h2;omega
theorem znL {rn:Int->Int->List Nd} {t:Tk} {k2:Int} {p:List Nd×Nat} (h:zb2 rn t k2=.inl p):p.2=1∨(p.2=2/\k2=20):=by
 unfold zb2 at h;by_cases c0:t.kd=2
 ·rw [iP c0] at h
  cases h;exact .inl rfl
 rw [iN c0] at h;by_cases c1:t.kd=3∨t.kd=28
 ·rw [iP c1] at h
  cases h;exact .inl rfl
 rw [iN c1] at h;by_cases c2:t.kd=5
 ·rw [iP c2] at h
  cases h;exact .inl rfl
 rw [iN c2] at h;by_cases c3:t.kd=18
 ·rw [iP c3] at h
  cases h;exact .inl rfl
 rw [iN c3] at h;by_cases c4:t.kd=29
 ·rw [iP c4] at h
  cases h;exact .inl rfl
 rw [iN c4] at h;by_cases c5:t.kd=30
 ·rw [iP c5] at h
  cases h;exact .inl rfl
 rw [iN c5] at h;by_cases c6:t.kd=1
 ·rw [iP c6] at h
  cases h;exact .inl rfl
 rw [iN c6] at h;by_cases c7:t.kd=16
 ·rw [iP c7] at h
  cases h
 rw [iN c7] at h;by_cases c8:t.kd=19
 ·rw [iP c8] at h
  by_cases d:k2=20
  ·rw [iP d] at h
   cases h;exact .inr ⟨rfl,d⟩
  ·rw [iN d] at h
   cases h
 rw [iN c8] at h;by_cases c9:t.kd=21
 ·rw [iP c9] at h
  cases h
 rw [iN c9] at h;by_cases c10:t.kd=23
 ·rw [iP c10] at h
  cases h
 rw [iN c10] at h
 cases h
theorem znM {rn:Int->Int->List Nd} {t:Tk} {k2:Int} {p:Int×List Nd} (h:zb2 rn t k2=.inr p):p.1=17∨p.1=20∨p.1=22∨p.1=24∨p.1=26:=by
 unfold zb2 at h;by_cases c0:t.kd=2
 ·rw [iP c0] at h
  cases h
 rw [iN c0] at h;by_cases c1:t.kd=3∨t.kd=28
 ·rw [iP c1] at h
  cases h
 rw [iN c1] at h;by_cases c2:t.kd=5
 ·rw [iP c2] at h
  cases h
 rw [iN c2] at h;by_cases c3:t.kd=18
 ·rw [iP c3] at h
  cases h
 rw [iN c3] at h;by_cases c4:t.kd=29
 ·rw [iP c4] at h
  cases h
 rw [iN c4] at h;by_cases c5:t.kd=30
 ·rw [iP c5] at h
  cases h
 rw [iN c5] at h;by_cases c6:t.kd=1
 ·rw [iP c6] at h
  cases h
 rw [iN c6] at h;by_cases c7:t.kd=16
 ·rw [iP c7] at h
  cases h;simp
 rw [iN c7] at h;by_cases c8:t.kd=19
 ·rw [iP c8] at h
  by_cases d:k2=20
  ·rw [iP d] at h
   cases h
  ·rw [iN d] at h
   cases h;simp
 rw [iN c8] at h;by_cases c9:t.kd=21
 ·rw [iP c9] at h
  cases h;simp
 rw [iN c9] at h;by_cases c10:t.kd=23
 ·rw [iP c10] at h
  cases h;simp
 rw [iN c10] at h
 cases h;simp
theorem zjb {E:PE} {i:Nat} {p:List Nd×Nat} (hi:i<E.l.length) (h:zbw E i=.inl p):0<p.2/\i+p.2<=E.l.length:=by
 rcases znL h with h1 | ⟨h1,h2⟩
 ·omega
 ·have:=za9 (E:=E) (i:=i+1) (by omega)
  omega
theorem za5 (E:PE):∀(f m i d a:Nat) (ns:List Nd),i<=E.l.length->(m=5->i<E.l.length)->PF E f m i d=.inl (a,ns)->i<=a/\a<=E.l.length/\(m=0∨m=2∨m=4∨m=5->i<a):=by
 intro f
 induction f with
 | zero=>intro m i d a ns _ _ h;cases h
 | succ f ih =>
  intro m i d a ns hi h5 h;rw [PF] at h;by_cases m0:m=0
  ·rw [iP m0] at h
   obtain ⟨a1,n1,r1,h⟩:=zaO h;obtain ⟨n2,r2,_⟩:=zaZ h;obtain ⟨x1,x2,x3⟩:=ih _ _ _ _ _ hi (by omega) r1;obtain ⟨y1,y2,_⟩:=ih _ _ _ _ _ x2 (by omega) r2;have:=x3 (by omega);dsimp only at y1 y2;exact ⟨by omega,y2,fun _=>by omega⟩
  rw [iN m0] at h;by_cases m1:m=1
  ·rw [iP m1] at h
   by_cases k7:kdA E i=7
   ·have hlt:=za9 (E:=E) (i:=i) (by omega)
    rw [iP k7] at h;obtain ⟨a1,n1,r1,h⟩:=zaO h;obtain ⟨n2,r2,_⟩:=zaZ h;obtain ⟨x1,x2,x3⟩:=ih _ _ _ _ _ (by omega) (by omega) r1;obtain ⟨y1,y2,_⟩:=ih _ _ _ _ _ x2 (by omega) r2;dsimp only at y1 y2;exact ⟨by omega,y2,fun q=>by omega⟩
   ·rw [iN k7] at h
    cases h
    exact ⟨nL _,hi,fun q=>by omega⟩
  rw [iN m1] at h;by_cases m2:m=2
  ·rw [iP m2] at h
   obtain ⟨a1,n1,r1,h⟩:=zaO h;obtain ⟨n2,r2,_⟩:=zaZ h;obtain ⟨x1,x2,x3⟩:=ih _ _ _ _ _ hi (by omega) r1;obtain ⟨y1,y2,_⟩:=ih _ _ _ _ _ x2 (by omega) r2;have:=x3 (by omega);dsimp only at y1 y2;exact ⟨by omega,y2,fun _=>by omega⟩
  rw [iN m2] at h;by_cases m3:m=3
  ·rw [iP m3] at h
   by_cases kb:bgn E i=true
   ·have hlt:=zc6 kb
    rw [iP kb] at h;obtain ⟨a1,n1,r1,h⟩:=zaO h;obtain ⟨n2,r2,_⟩:=zaZ h;obtain ⟨x1,x2,x3⟩:=ih _ _ _ _ _ (by omega) (by omega) r1;obtain ⟨y1,y2,_⟩:=ih _ _ _ _ _ x2 (by omega) r2;dsimp only at y1 y2;exact ⟨by omega,y2,fun q=>by omega⟩
   ·rw [iN kb] at h
    cases h
    exact ⟨nL _,hi,fun q=>by omega⟩
  rw [iN m3] at h;by_cases m4:m=4
  ·rw [iP m4] at h
   by_cases kb:bgn E i=true
   ·have hlt:=zc6 kb
    rw [iP kb] at h;by_cases k8:kdA E i=8∨kdA E i=9
    ·rw [iP k8] at h
     split at h
     ·cases h
     ·obtain ⟨a1,n1,r1,h⟩:=zaO h
      cases h
      obtain ⟨x1,x2,x3⟩:=ih _ _ _ _ _ (by omega) (by omega) r1;exact ⟨by omega,x2,fun _=>by omega⟩
    ·rw [iN k8] at h
     obtain ⟨a1,n1,r1,h⟩:=zaO h;obtain ⟨n2,r2,_⟩:=zaZ h;obtain ⟨x1,x2,x3⟩:=ih _ _ _ _ _ (by omega) (fun _=>hlt) r1;obtain ⟨y1,y2,_⟩:=ih _ _ _ _ _ x2 (by omega) r2;have:=x3 (by omega);dsimp only at y1 y2;exact ⟨by omega,y2,fun _=>by omega⟩
   ·rw [iN kb] at h;cases h
  rw [iN m4] at h;by_cases m5:m=5
  ·rw [iP m5] at h
   have hlt:=h5 m5
   cases hp:zbw E i with
   | inl p =>
    rw [hp] at h
    cases h
    have:=zjb hlt hp;exact ⟨by omega,this.2,fun _=>by omega⟩
   | inr p =>
    rw [hp] at h;dsimp only at h
    split at h
    ·cases h
    ·obtain ⟨a1,n1,r1,h⟩:=zaO h
     obtain ⟨x1,x2,x3⟩:=ih _ _ _ _ _ (by omega) (by omega) r1
     split at h
     ·next hk =>
      cases h
      have:a1<E.l.length:=by
       apply za9
       intro q;have hc:=znM hp;omega
      exact ⟨by omega,by omega,fun _=>by omega⟩
     ·cases h
  rw [iN m5] at h
  cases hs:zgG E i with
  | inl p =>
   rw [hs] at h;obtain ⟨n2,r2,_⟩:=zaZ h;obtain ⟨q1,q2⟩:=zhx hs;obtain ⟨y1,y2,_⟩:=ih _ _ _ _ _ q2 (fun q=>by cases q) r2;dsimp only at y1 y2;exact ⟨by omega,y2,fun q=>by omega⟩
  | inr o =>
   rw [hs] at h
   cases o with
   | none=>cases h;exact ⟨nL _,hi,fun q=>by omega⟩
   | some q=>cases h
def rk (m:Nat):Nat:=if m=0 then 4 else if m=2 then 3 else if m=3 then 3 else if m=4 then 2 else if m=5 then 1 else 0
def nee (E:PE) (m i:Nat):Nat:=5 * (E.l.length - i)+rk m+1
theorem zb3 {r r':PR} {F G:Nat->List Nd->PR} (h:r=r') (h2:∀a ns,r=.inl (a,ns)->F a ns=G a ns):bnd r F=bnd r' G:=by
 subst h
 cases r with
 | inl p=>exact h2 p.1 p.2 rfl
 | inr q=>rfl
theorem zm5 (m:Nat) (h0:¬m=0) (h2:¬m=2) (h3:¬m=3) (h4:¬m=4) (h5:¬m=5):rk m=0:=by
 unfold rk;rw [iN h0,iN h2,iN h3,iN h4,iN h5]
theorem rk0:rk 0=4:=rfl
theorem rk1:rk 1=0:=rfl
theorem rk2:rk 2=3:=rfl
theorem rk3:rk 3=3:=rfl
theorem rk4:rk 4=2:=rfl
theorem rk5:rk 5=1:=rfl
theorem rk6:rk 6=0:=rfl
theorem znN (E:PE):∀(f g m i d:Nat),i<=E.l.length->(m=5->i<E.l.length)->nee E m i<=f->nee E m i<=g->PF E f m i d=PF E g m i d:=by
 intro f
 induction f with
 | zero=>intro g m i d _ _ h;unfold nee at h;omega
 | succ f ih =>
  intro g m i d hi h5 hf hg
  cases g with
  | zero=>unfold nee at hg;omega
  | succ g =>
   unfold nee at hf hg ih;rw [PF,PF];by_cases m0:m=0
   ·subst m0
    rw [rk0] at hf hg;rw [iP rfl,iP rfl];refine zb3 (ih g 2 i d hi (by omega) (by rw [rk2];omega) (by rw [rk2];omega)) (fun a ns hr=>?_);obtain ⟨x1,x2,x3⟩:=za5 E _ _ _ _ _ _ hi (by omega) hr;have:=x3 (by omega);rw [ih g 1 a d x2 (by omega) (by rw [rk1];omega) (by rw [rk1];omega)]
   rw [iN m0,iN m0];by_cases m1:m=1
   ·subst m1
    rw [rk1] at hf hg;rw [iP rfl,iP rfl];by_cases k7:kdA E i=7
    ·have hlt:=za9 (E:=E) (i:=i) (by omega)
     rw [iP k7,iP k7];refine zb3 (ih g 2 (i+1) d (by omega) (by omega) (by rw [rk2];omega) (by rw [rk2];omega)) (fun a ns hr=>?_);obtain ⟨x1,x2,x3⟩:=za5 E _ _ _ _ _ _ (by omega) (by omega) hr;rw [ih g 1 a d x2 (by omega) (by rw [rk1];omega) (by rw [rk1];omega)]
    ·rw [iN k7,iN k7]
   rw [iN m1,iN m1];by_cases m2:m=2
   ·subst m2
    rw [rk2] at hf hg;rw [iP rfl,iP rfl];refine zb3 (ih g 4 i d hi (by omega) (by rw [rk4];omega) (by rw [rk4];omega)) (fun a ns hr=>?_);obtain ⟨x1,x2,x3⟩:=za5 E _ _ _ _ _ _ hi (by omega) hr;have:=x3 (by omega);rw [ih g 3 a d x2 (by omega) (by rw [rk3];omega) (by rw [rk3];omega)]
   rw [iN m2,iN m2];by_cases m3:m=3
   ·subst m3
    rw [rk3] at hf hg;rw [iP rfl,iP rfl];by_cases kb:bgn E i=true
    ·have hlt:=zc6 kb
     rw [iP kb,iP kb];refine zb3 (ih g 4 i d (by omega) (by omega) (by rw [rk4];omega) (by rw [rk4];omega)) (fun a ns hr=>?_);obtain ⟨x1,x2,x3⟩:=za5 E _ _ _ _ _ _ (by omega) (by omega) hr;have:=x3 (by omega);rw [ih g 3 a d x2 (by omega) (by rw [rk3];omega) (by rw [rk3];omega)]
    ·rw [iN kb,iN kb]
   rw [iN m3,iN m3];by_cases m4:m=4
   ·subst m4
    rw [rk4] at hf hg;rw [iP rfl,iP rfl];by_cases kb:bgn E i=true
    ·have hlt:=zc6 kb
     rw [iP kb,iP kb];by_cases k8:kdA E i=8∨kdA E i=9
     ·rw [iP k8,iP k8]
      by_cases hd:240<=d
      ·rw [iP hd,iP hd]
      ·rw [iN hd,iN hd]
       exact zb3 (ih g 4 (i+1) (d+1) (by omega) (by omega) (by rw [rk4];omega) (by rw [rk4];omega)) (fun a ns hr=>rfl)
     ·rw [iN k8,iN k8]
      refine zb3 (ih g 5 i d (by omega) (fun _=>hlt) (by rw [rk5];omega) (by rw [rk5];omega)) (fun a ns hr=>?_);obtain ⟨x1,x2,x3⟩:=za5 E _ _ _ _ _ _ (by omega) (fun _=>hlt) hr;have:=x3 (by omega);rw [ih g 6 a d x2 (by omega) (by rw [rk6];omega) (by rw [rk6];omega)]
    ·rw [iN kb,iN kb]
   rw [iN m4,iN m4];by_cases m5:m=5
   ·have hlt:=h5 m5
    subst m5;rw [rk5] at hf hg;rw [iP rfl,iP rfl]
    cases hp:zbw E i with
    | inl p=>rfl
    | inr p =>
     dsimp only;by_cases hd:240<=d
     ·rw [iP hd,iP hd]
     ·rw [iN hd,iN hd]
      exact zb3 (ih g 0 (i+1) (d+1) (by omega) (by omega) (by rw [rk0];omega) (by rw [rk0];omega)) (fun a ns hr=>rfl)
   rw [iN m5,iN m5];rw [zm5 m m0 m2 m3 m4 m5] at hf hg
   cases hs:zgG E i with
   | inl p =>
    obtain ⟨q1,q2⟩:=zhx hs;dsimp only;rw [ih g 6 (i+p.2) d q2 (by omega) (by rw [rk6];omega) (by rw [rk6];omega)]
   | inr o=>cases o <;> rfl
theorem zjc (E:PE):kdA E E.l.length=0:=by unfold kdA;rw [List.getElem?_eq_none (nL _)]
theorem zdg {r:PR} {f:Nat->List Nd->PR} {q:Nat×Int} (h:bnd r f=.inr q):r=.inr q∨∃a ns,r=.inl (a,ns)/\f a ns=.inr q:=by
 cases r with
 | inl p=>exact .inr ⟨p.1,p.2,rfl,h⟩
 | inr p=>exact .inl h
theorem zdQ {ns:List Nd} {r:PR} {q:Nat×Int} (h:ahd ns r=.inr q):r=.inr q:=by
 cases r with
 | inl p=>cases h
 | inr p=>exact h
theorem sufK_e {tm:ByteArray->Bool} {t u:Tk} {k k2 c:Int} (h:zja tm t u k k2=.inr (some c)):c=60∨c=61∨c=1:=by
 unfold zja at h;by_cases h0:k=10
 ·rw [iP h0] at h;cases h
 rw [iN h0] at h;by_cases h1:k=11
 ·rw [iP h1] at h;cases h
 rw [iN h1] at h;by_cases h2:k=12
 ·rw [iP h2] at h;cases h
 rw [iN h2] at h;by_cases h3:k=13
 ·rw [iP h3] at h;cases h
 rw [iN h3] at h;by_cases h4:k=14
 ·rw [iP h4] at h;cases h
 rw [iN h4] at h;by_cases h5:k=15
 ·rw [iP h5] at h;cases h
 rw [iN h5] at h;by_cases h7:k=27
 ·rw [iP h7] at h
  by_cases h8:k2=2
  ·rw [iP h8] at h
   split at h
   ·cases h
   ·cases h;exact .inr (.inl rfl)
  ·rw [iN h8] at h
   by_cases h9:k2=4
   ·rw [iP h9] at h
    split at h
    ·cases h;exact .inr (.inr rfl)
    ·cases h
   ·rw [iN h9] at h;cases h;exact .inl rfl
 ·rw [iN h7] at h;cases h
theorem znO {tm:ByteArray->Bool} {t u:Tk} {k k2 c:Int} (h:zja tm t u k k2=.inr (some c)):k=27:=by
 unfold zja at h;by_cases h0:k=10
 ·rw [iP h0] at h;cases h
 rw [iN h0] at h;by_cases h1:k=11
 ·rw [iP h1] at h;cases h
 rw [iN h1] at h;by_cases h2:k=12
 ·rw [iP h2] at h;cases h
 rw [iN h2] at h;by_cases h3:k=13
 ·rw [iP h3] at h;cases h
 rw [iN h3] at h;by_cases h4:k=14
 ·rw [iP h4] at h;cases h
 rw [iN h4] at h;by_cases h5:k=15
 ·rw [iP h5] at h;cases h
 rw [iN h5] at h;by_cases h7:k=27
 ·exact h7
 ·rw [iN h7] at h;cases h
theorem zm6 (E:PE):∀(f m i d:Nat) (q:Nat×Int),i<=E.l.length->(m=5->i<E.l.length)->nee E m i<=f->PF E f m i d=.inr q->q.1<=E.l.length/\(q.2=60∨q.2=61∨q.2=4∨q.2=1):=by
 intro f
 induction f with
 | zero=>intro m i d q _ _ h;unfold nee at h;omega
 | succ f ih =>
  intro m i d q hi h5 hf hr;rw [PF] at hr;by_cases m0:m=0
  ·subst m0
   unfold nee at hf;rw [rk0] at hf;rw [iP rfl] at hr
   rcases zdg hr with r1 | ⟨a1,n1,r1,hr⟩
   ·exact ih _ _ _ _ hi (by omega) (by unfold nee;rw [rk2];omega) r1
   ·obtain ⟨x1,x2,x3⟩:=za5 E _ _ _ _ _ _ hi (by omega) r1
    exact ih _ _ _ _ x2 (by omega) (by unfold nee;rw [rk1];have:=x3 (by omega);omega) (zdQ hr)
  rw [iN m0] at hr;by_cases m1:m=1
  ·subst m1
   unfold nee at hf;rw [rk1] at hf;rw [iP rfl] at hr;by_cases k7:kdA E i=7
   ·have hlt:=za9 (E:=E) (i:=i) (by omega)
    rw [iP k7] at hr
    rcases zdg hr with r1 | ⟨a1,n1,r1,hr⟩
    ·exact ih _ _ _ _ (by omega) (by omega) (by unfold nee;rw [rk2];omega) r1
    ·obtain ⟨x1,x2,x3⟩:=za5 E _ _ _ _ _ _ (by omega) (by omega) r1
     exact ih _ _ _ _ x2 (by omega) (by unfold nee;rw [rk1];have:=x3 (by omega);omega) (zdQ hr)
   ·rw [iN k7] at hr;cases hr
  rw [iN m1] at hr;by_cases m2:m=2
  ·subst m2
   unfold nee at hf;rw [rk2] at hf;rw [iP rfl] at hr
   rcases zdg hr with r1 | ⟨a1,n1,r1,hr⟩
   ·exact ih _ _ _ _ hi (by omega) (by unfold nee;rw [rk4];omega) r1
   ·obtain ⟨x1,x2,x3⟩:=za5 E _ _ _ _ _ _ hi (by omega) r1
    exact ih _ _ _ _ x2 (by omega) (by unfold nee;rw [rk3];have:=x3 (by omega);omega) (zdQ hr)
  rw [iN m2] at hr;by_cases m3:m=3
  ·subst m3
   unfold nee at hf;rw [rk3] at hf;rw [iP rfl] at hr;by_cases kb:bgn E i=true
   ·rw [iP kb] at hr
    rcases zdg hr with r1 | ⟨a1,n1,r1,hr⟩
    ·exact ih _ _ _ _ hi (by omega) (by unfold nee;rw [rk4];omega) r1
    ·obtain ⟨x1,x2,x3⟩:=za5 E _ _ _ _ _ _ hi (by omega) r1
     exact ih _ _ _ _ x2 (by omega) (by unfold nee;rw [rk3];have:=x3 (by omega);omega) (zdQ hr)
   ·rw [iN kb] at hr;cases hr
  rw [iN m3] at hr;by_cases m4:m=4
  ·subst m4
   unfold nee at hf;rw [rk4] at hf;rw [iP rfl] at hr;by_cases kb:bgn E i=true
   ·have hlt:=zc6 kb
    rw [iP kb] at hr;by_cases k8:kdA E i=8∨kdA E i=9
    ·rw [iP k8] at hr
     by_cases hd:240<=d
     ·rw [iP hd] at hr;cases hr;exact ⟨hi,by simp⟩
     ·rw [iN hd] at hr
      rcases zdg hr with r1 | ⟨a1,n1,r1,hr⟩
      ·exact ih _ _ _ _ (by omega) (by omega) (by unfold nee;rw [rk4];omega) r1
      ·cases hr
    ·rw [iN k8] at hr
     rcases zdg hr with r1 | ⟨a1,n1,r1,hr⟩
     ·exact ih _ _ _ _ hi (fun _=>hlt) (by unfold nee;rw [rk5];omega) r1
     ·obtain ⟨x1,x2,x3⟩:=za5 E _ _ _ _ _ _ hi (fun _=>hlt) r1
      exact ih _ _ _ _ x2 (by omega) (by unfold nee;rw [rk6];have:=x3 (by omega);omega) (zdQ hr)
   ·rw [iN kb] at hr;cases hr;exact ⟨hi,by simp⟩
  rw [iN m4] at hr;by_cases m5:m=5
  ·have hlt:=h5 m5
   subst m5;unfold nee at hf;rw [rk5] at hf;rw [iP rfl] at hr
   cases hp:zbw E i with
   | inl p=>rw [hp] at hr;cases hr
   | inr p =>
    rw [hp] at hr;dsimp only at hr;by_cases hd:240<=d
    ·rw [iP hd] at hr;cases hr;exact ⟨hi,by simp⟩
    ·rw [iN hd] at hr
     rcases zdg hr with r1 | ⟨a1,n1,r1,hr⟩
     ·exact ih _ _ _ _ (by omega) (by omega) (by unfold nee;rw [rk0];omega) r1
     ·obtain ⟨x1,x2,x3⟩:=za5 E _ _ _ _ _ _ (by omega) (by omega) r1
      split at hr
      ·cases hr
      ·cases hr;exact ⟨x2,by simp⟩
  rw [iN m5] at hr;unfold nee at hf;rw [zm5 m m0 m2 m3 m4 m5] at hf
  cases hs:zgG E i with
  | inl p =>
   rw [hs] at hr;obtain ⟨q1,q2⟩:=zhx hs;exact ih _ _ _ _ q2 (fun q=>by cases q) (by unfold nee;rw [rk6];omega) (zdQ hr)
  | inr o =>
   rw [hs] at hr
   cases o with
   | none=>cases hr
   | some c =>
    have hc:=sufK_e hs;have hk:kdA E i=27:=znO hs;have:=za9 (E:=E) (i:=i) (by omega)
    cases hr
    exact ⟨this,by dsimp only;omega⟩
def fue (E:PE):Nat:=5 * E.l.length+5
theorem znP (E:PE) (i:Nat):nee E 0 i<=fue E:=by
 unfold nee fue;rw [rk0];omega
def exN (E:PE) (i:Nat):PR:=PF E (fue E) 0 i 0
theorem zes {E:PE} {i a:Nat} {ns:List Nd} (hi:i<=E.l.length) (h:exN E i=.inl (a,ns)):i<a/\a<=E.l.length:=by
 obtain ⟨_,h2,h3⟩:=za5 E _ _ _ _ _ _ hi (by omega) h;exact ⟨h3 (.inl rfl),h2⟩
theorem zjd {E:PE} {i:Nat} {q:Nat×Int} (hi:i<=E.l.length) (h:exN E i=.inr q):q.1<=E.l.length/\(q.2=60∨q.2=61∨q.2=4∨q.2=1):=zm6 E _ _ _ _ _ hi (by omega) (znP E i) h
def ruB (E:PE) (i:Nat):Bool:=kdA E i==1&&kdA E (i+1)==6
abbrev Rl:=Nat×ByteArray×List Nd
def rlG (ex:Nat->PR) (E:PE):Nat->Nat->List Rl->Sum (List Rl) (Nat×Int)
 | 0,_,out=>.inl out
 | f+1,i,out=>if i<E.l.length then (if ruB E i=true then (match ex (i+2) with
  | .inr q=>.inr q
  | .inl p=>rlG ex E f p.1 (out++[(i,(tkA E i).tx,p.2)])) else .inr (i,60)) else .inl out
def rdN (E:PE):Sum (List Rl) (Nat×Int):=if ruB E 0=true then rlG (exN E) E (E.l.length+1) 0 [] else (match exN E 0 with
 | .inr q=>.inr q
 | .inl p=>if p.1<E.l.length then .inr (p.1,60) else .inl [(0,⟨#[]⟩,p.2)])
theorem zeU {E:PE} {i:Nat} (h:ruB E i=true):i+2<=E.l.length:=by
 unfold ruB at h;simp only [Bool.and_eq_true,beq_iff_eq] at h;have:=za9 (E:=E) (i:=i+1) (by omega);omega
theorem znQ (E:PE):∀(f i:Nat) (out:List Rl) (q:Nat×Int),rlG (exN E) E f i out=.inr q->q.1<=E.l.length/\(q.2=60∨q.2=61∨q.2=4∨q.2=1):=by
 intro f
 induction f with
 | zero=>intro i out q h;rw [rlG] at h;cases h
 | succ f ih =>
  intro i out q h;rw [rlG] at h;by_cases hi:i<E.l.length
  ·rw [iP hi] at h
   by_cases hr:ruB E i=true
   ·rw [iP hr] at h
    cases he:exN E (i+2) with
    | inr p=>rw [he] at h;cases h;exact zjd (zeU hr) he
    | inl p=>rw [he] at h;exact ih _ _ _ h
   ·rw [iN hr] at h;cases h;exact ⟨Nat.le_of_lt hi,by simp⟩
  ·rw [iN hi] at h;cases h
theorem znR {E:PE} {q:Nat×Int} (h:rdN E=.inr q):q.1<=E.l.length/\(q.2=60∨q.2=61∨q.2=4∨q.2=1):=by
 unfold rdN at h;by_cases hr:ruB E 0=true
 ·rw [iP hr] at h;exact znQ E _ _ _ _ h
 ·rw [iN hr] at h
  cases he:exN E 0 with
  | inr p=>rw [he] at h;cases h;exact zjd (Nat.zero_le _) he
  | inl p =>
   rw [he] at h;dsimp only at h
   split at h
   ·next hp=>cases h;exact ⟨Nat.le_of_lt hp,by simp⟩
   ·cases h
def gN (E:PE) (m i d:Nat):PR:=PF E (5 * E.l.length+5) m i d
theorem zje (E:PE) (m i:Nat):nee E m i<=5 * E.l.length+5:=by
 unfold nee rk
 split
 ·omega
 ·split
  ·omega
  ·split
   ·omega
   ·split
    ·omega
    ·split <;> omega
theorem zdh (E:PE) (m i d:Nat) (hi:i<=E.l.length) (h5:m=5->i<E.l.length):gN E m i d=PF E (5 * E.l.length+5+1) m i d :=
 znN E _ _ m i d hi h5 (zje E m i) (Nat.le_succ_of_le (zje E m i))
theorem zlB (E:PE) (i:Nat):gN E 0 i 0=exN E i:=rfl
theorem zbN {E:PE} {m i d a:Nat} {ns:List Nd} (hi:i<=E.l.length) (h5:m=5->i<E.l.length) (h:gN E m i d=.inl (a,ns)):i<=a/\a<=E.l.length/\(m=0∨m=2∨m=4∨m=5->i<a):=za5 E _ _ _ _ _ _ hi h5 h
theorem zbA {E:PE} {m i d:Nat} {q:Nat×Int} (hi:i<=E.l.length) (h5:m=5->i<E.l.length) (h:gN E m i d=.inr q):q.1<=E.l.length/\(q.2=60∨q.2=61∨q.2=4∨q.2=1):=zm6 E _ _ _ _ _ hi h5 (zje E m i) h
theorem g0 (E:PE) (i d:Nat) (hi:i<=E.l.length):gN E 0 i d=bnd (gN E 2 i d) fun a ns=>ahd ns (gN E 1 a d):=by
 rw [zdh E 0 i d hi (by omega),PF,iP rfl];rfl
theorem g1 (E:PE) (i d:Nat) (hi:i<=E.l.length):gN E 1 i d=if kdA E i=7 then bnd (gN E 2 (i+1) d) fun a ns=>ahd (ns++[nd0 8]) (gN E 1 a d) else .inl (i,[]):=by
 rw [zdh E 1 i d hi (by omega),PF,iN (by decide),iP rfl];rfl
theorem g2 (E:PE) (i d:Nat) (hi:i<=E.l.length):gN E 2 i d=bnd (gN E 4 i d) fun a ns=>ahd ns (gN E 3 a d):=by
 rw [zdh E 2 i d hi (by omega),PF,iN (by decide),iN (by decide),iP rfl];rfl
theorem g3 (E:PE) (i d:Nat) (hi:i<=E.l.length):gN E 3 i d=if bgn E i=true then bnd (gN E 4 i d) fun a ns=>ahd (ns++[nd0 7]) (gN E 3 a d) else .inl (i,[]):=by
 rw [zdh E 3 i d hi (by omega),PF,iN (by decide),iN (by decide),iN (by decide),iP rfl];rfl
theorem g4 (E:PE) (i d:Nat) (hi:i<=E.l.length):gN E 4 i d=if bgn E i=true then
        (if kdA E i=8∨kdA E i=9 then (if 240<=d then .inr (i,4) else bnd (gN E 4 (i+1) (d+1)) fun a ns=>.inl (a,ns++[nd0 (if kdA E i=8 then 12 else 13)]))
         else bnd (gN E 5 i d) fun a ns=>ahd ns (gN E 6 a d))
       else .inr (i,60):=by
  rw [zdh E 4 i d hi (by omega),PF,iN (by decide),iN (by decide),iN (by decide),iN (by decide),iP rfl];rfl
theorem g5 (E:PE) (i d:Nat) (hi:i<E.l.length):gN E 5 i d=match zbw E i with
       | .inl p=>.inl (i+p.2,p.1)
       | .inr p=>if 240<=d then .inr (i,4) else bnd (gN E 0 (i+1) (d+1)) fun a ms=>if kdA E a=p.1 then .inl (a+1,ms++p.2) else .inr (a,60):=by
  rw [zdh E 5 i d (by omega) (fun _=>hi),PF,iN (by decide),iN (by decide),iN (by decide),iN (by decide),iN (by decide),iP rfl];rfl
theorem g6 (E:PE) (i d:Nat) (hi:i<=E.l.length):gN E 6 i d=match zgG E i with
       | .inr none=>.inl (i,[])
       | .inr (some c)=>.inr (i+1,c)
       | .inl p=>ahd [p.1] (gN E 6 (i+p.2) d):=by
  rw [zdh E 6 i d hi (by omega),PF,iN (by decide),iN (by decide),iN (by decide),iN (by decide),iN (by decide),iN (by decide)];rfl
theorem zcs (a b:List Nd) (r:PR):ahd a (ahd b r)=ahd (a++b) r:=by
 cases r with
 | inl p=>show Sum.inl _=Sum.inl _;rw [List.append_assoc]
 | inr q=>rfl
end Go.Proofs.YtkihfkcmcdiajabGreatDoor.N
namespace Go.Proofs.YtkihfkcmcdiajabGreatDoor
open Go.RowKit
theorem zan (s:ByteArray) (i:Nat) (c:Int) (hc:0<=c) (w:World) :
  Cl 125 #[.string s,.int .i64 i,.int .u8 c] w (rU w (.bool (chr s i==c))):=by
 by_cases h:i<s.size
 ·have HE:=hO (zam h)
  have h0:(0:Int)<=(i:Int):=by omega
  have h1:(i:Int)<(s.size:Int):=by omega
  go_enter Tryz.func125,Tryz.ntmps125;go_wp2
  go_ret
  exact ⟨by rw [HE.out];rfl,rfl⟩
 ·have HE:Hid ((chr s i==c)=false):=(by show (chr s i==c)=false;rw [zau h];exact bF (by omega))
  have h1:¬(i:Int)<(s.size:Int):=by omega
  go_enter Tryz.func125,Tryz.ntmps125;go_wp2
  go_ret
  exact ⟨zaD HE.symm,rfl⟩
abbrev digs:ByteArray:=⟨#[48,49,50,51,52,53,54,55,56,57,97,98,99,100,101,102]⟩
theorem zgH (c:UInt8):Lib.indexByte digs.data.toList c=zaI (c.toNat:Int):=by
 have key:∀n,n<256->Lib.indexByte digs.data.toList (UInt8.ofNat n)=zaI (n:Int):=by decide +kernel
 have:=key c.toNat c.toNat_lt;rw [UInt8.ofNat_toNat] at this;exact this
theorem zci (c:UInt8) (w:World):Cl 121 #[.string digs,.int .u8 (c.toNat:Int)] w (rU w (.int .i64 (zaI (c.toNat:Int)))):=by
 refine (Tryz.strings_IndexByte digs (c.toNat:Int) w).mono ?_;rintro e w' ⟨rfl,rfl⟩;refine ⟨?_,rfl⟩;rw [<-zgH];simp
def itV:Option (Nat×Nat)->Value
 | none=>.tuple #[.int .i64 0,.int .i64 0,.bool false]
 | some (b,n)=>.tuple #[.int .i64 b,.int .i64 n,.bool true]
theorem ze9 {b n:Nat} {b' n':Int} (hb:b'=b) (hn:n'=n):Ending.returned (.tuple #[.int .i64 b',.int .i64 n',.bool true])=.returned (itV (some (b,n))):=by rw [hb,hn];rfl
theorem zdi (s:ByteArray) (i:Nat) (hi:i+1<s.size) (hs:s.size<=140737488355328) (w:World) :
  Cl 175 #[.string s,.int .i64 i] w (rU w (itV (zbh s i))):=by
 by_cases h:i+3<s.size
 ·have h2:i+2<s.size:=by omega
  have hb1:=zbj (s[i+2].toNat:Int);have hb2:=zbj (s[i+3].toNat:Int);have HE:Hid (zbh s i=if 0<=zaI (s[i+2].toNat:Int)/\0<=zaI (s[i+3].toNat:Int) then some ((16 * zaI (s[i+2].toNat:Int)+zaI (s[i+3].toNat:Int)).toNat,i+4) else none):=(by show zbh s i=_;unfold zbh;rw [zam h,zam h2]);have HI:Hid (∀w,Cl 121 #[.string digs,.int .u8 (s[i+2].toNat:Int)] w (rU w (.int .i64 (zaI (s[i+2].toNat:Int))))):=fun w=>zci _ w
  have HJ:Hid (∀w,Cl 121 #[.string digs,.int .u8 (s[i+3].toNat:Int)] w (rU w (.int .i64 (zaI (s[i+3].toNat:Int))))):=fun w=>zci _ w
  go_enter Tryz.func175,Tryz.ntmps175;go_wp2_with fail;refine (HI _).mono ?_;rintro e w' ⟨rfl,rfl⟩;clear HI;go_wp2_with fail;refine (HJ _).mono ?_;rintro e w' ⟨rfl,rfl⟩;clear HJ;generalize zaI (s[i+2].toNat:Int)=a at *;generalize zaI (s[i+3].toNat:Int)=b at *;by_cases ha:0<=a
  ·by_cases hb:0<=b
   ·go_wp2
    go_ret3
    exact ⟨by rw [HE.out,iP ⟨ha,hb⟩];exact ze9 (by omega) (by omega),rfl⟩
   ·go_wp2
    go_ret3
    exact ⟨by rw [HE.out,iN (fun h=>by omega)];rfl,rfl⟩
  ·go_wp2
   go_ret3
   exact ⟨by rw [HE.out,iN (fun h=>by omega)];rfl,rfl⟩
 ·have h1:¬(i:Int)+3<(s.size:Int):=by omega
  have HE:Hid (zbh s i=none):=(by show zbh s i=none;unfold zbh;rw [zau h];rw [iN];rintro ⟨_,h2⟩;simp [zaI] at h2);go_enter Tryz.func175,Tryz.ntmps175;go_wp2
  go_ret3
  exact ⟨by rw [HE.out];rfl,rfl⟩
theorem zdj (s:ByteArray) (i:Nat) (hi:i<s.size) (hs:s.size<=140737488355328) (w:World) :
  Cl 170 #[.string s,.int .i64 i] w (rU w (itV (zaJ s i))):=by
 by_cases h:i+1<s.size
 ·have HX:Hid (∀w,Cl 175 #[.string s,.int .i64 i] w (rU w (itV (zbh s i)))):=fun w=>zdi s i h hs w
  have hb:(0:Int)<=(s[i+1].toNat:Int)/\(s[i+1].toNat:Int)<=255:=by have:=s[i+1].toNat_lt;omega
  have hw8:IntKind.i64.wrap (s[i+1].toNat:Int)=(s[i+1].toNat:Int):=by rw [wI];omega
  have HE:Hid (zaJ s i=if (s[i+1].toNat:Int)=110 then some (10,i+2) else if (s[i+1].toNat:Int)=114 then some (13,i+2) else if (s[i+1].toNat:Int)=116 then some (9,i+2) else
 if (s[i+1].toNat:Int)=120 then zbh s i else if zaQ (s[i+1].toNat:Int) then some ((s[i+1].toNat:Int).toNat,i+2) else none):=(by show zaJ s i=_;unfold zaJ;rw [zam h])
  by_cases h110:(s[i+1].toNat:Int)=110
  ·have HF:Hid (zaJ s i=some (10,i+2)):=(by show zaJ s i=_;rw [HE.out];rw [iP h110])
   clear HE HX;have e110:((s[i+1].toNat:Int)==110)=true:=beq_iff_eq.2 h110;clear h110;go_enter Tryz.func170,Tryz.ntmps170;go_wp2
   go_ret3
   exact ⟨by rw [HF.out];exact ze9 rfl (by omega),rfl⟩
  have e110:((s[i+1].toNat:Int)==110)=false:=bF h110;by_cases h114:(s[i+1].toNat:Int)=114
  ·have HF:Hid (zaJ s i=some (13,i+2)):=(by show zaJ s i=_;rw [HE.out];rw [iN h110,iP h114])
   clear HE HX;have e114:((s[i+1].toNat:Int)==114)=true:=beq_iff_eq.2 h114;clear h114;go_enter Tryz.func170,Tryz.ntmps170;go_wp2
   go_ret3
   exact ⟨by rw [HF.out];exact ze9 rfl (by omega),rfl⟩
  have e114:((s[i+1].toNat:Int)==114)=false:=bF h114;by_cases h116:(s[i+1].toNat:Int)=116
  ·have HF:Hid (zaJ s i=some (9,i+2)):=(by show zaJ s i=_;rw [HE.out];rw [iN h110,iN h114,iP h116])
   clear HE HX;have e116:((s[i+1].toNat:Int)==116)=true:=beq_iff_eq.2 h116;clear h116;go_enter Tryz.func170,Tryz.ntmps170;go_wp2
   go_ret3
   exact ⟨by rw [HF.out];exact ze9 rfl (by omega),rfl⟩
  have e116:((s[i+1].toNat:Int)==116)=false:=bF h116;by_cases h120:(s[i+1].toNat:Int)=120
  ·have HF:Hid (zaJ s i=zbh s i):=(by show zaJ s i=_;rw [HE.out];rw [iN h110,iN h114,iN h116,iP h120])
   have e120:((s[i+1].toNat:Int)==120)=true:=beq_iff_eq.2 h120;clear HE h110 h114 h116 h120;go_enter Tryz.func170,Tryz.ntmps170;go_wp2_with fail;refine (HX _).mono ?_;rintro e w' ⟨rfl,rfl⟩
   cases hq:zbh s i with
   | none =>
    rw [hq] at HF;clear HX hq;dsimp only [itV];go_wp2
    go_ret3
    exact ⟨by rw [HF.out];rfl,rfl⟩
   | some q =>
    obtain ⟨qb,qn⟩:=q;rw [hq] at HF;clear HX hq;dsimp only [itV];go_wp2
    go_ret3
    exact ⟨by rw [HF.out];rfl,rfl⟩
  have e120:((s[i+1].toNat:Int)==120)=false:=bF h120
  cases hg:zaQ (s[i+1].toNat:Int)
  ·have HF:Hid (zaJ s i=none):=(by show zaJ s i=_;rw [HE.out];rw [iN h110,iN h114,iN h116,iN h120,iN (by rw [hg];simp)])
   clear HE HX h110 h114 h116 h120;go_enter Tryz.func170,Tryz.ntmps170;go_wp2_with fail;refine (ze7 _ _).mono ?_;rintro e w' ⟨rfl,rfl⟩;go_wp2
   go_ret3
   exact ⟨by rw [HF.out];rfl,rfl⟩
  ·have HF:Hid (zaJ s i=some ((s[i+1].toNat:Int).toNat,i+2)):=(by show zaJ s i=_;rw [HE.out];rw [iN h110,iN h114,iN h116,iN h120,iP (by rw [hg])])
   clear HE HX h110 h114 h116 h120;go_enter Tryz.func170,Tryz.ntmps170;go_wp2_with fail;refine (ze7 _ _).mono ?_;rintro e w' ⟨rfl,rfl⟩;go_wp2
   go_ret3
   exact ⟨by rw [HF.out];exact ze9 (by omega) (by omega),rfl⟩
 ·have HE:Hid (zaJ s i=none):=(by show zaJ s i=none;unfold zaJ;rw [zau h];rfl)
  have h1:¬(i:Int)+1<(s.size:Int):=by omega
  go_enter Tryz.func170,Tryz.ntmps170;go_wp2
  go_ret3
  exact ⟨by rw [HE.out];rfl,rfl⟩
theorem za6 (s:ByteArray) (i:Nat) (hs:s.size<=140737488355328) (w:World) :
  Cl 161 #[.string s,.int .i64 i] w (rU w (itV (zak s i))):=by
 by_cases h:i<s.size
 ·have HX:Hid (∀w,Cl 170 #[.string s,.int .i64 i] w (rU w (itV (zaJ s i)))):=fun w=>zdj s i h hs w
  have hb:(0:Int)<=(s[i].toNat:Int)/\(s[i].toNat:Int)<=255:=by have:=s[i].toNat_lt;omega
  have hw8:IntKind.i64.wrap (s[i].toNat:Int)=(s[i].toNat:Int):=by rw [wI];omega
  have HE:Hid (zak s i=if (s[i].toNat:Int)=92 then zaJ s i else if (s[i].toNat:Int)=93∨(s[i].toNat:Int)=45∨(s[i].toNat:Int)=37∨zhw (s[i].toNat:Int)=false then none else some ((s[i].toNat:Int).toNat,i+1)):=(by show zak s i=_;unfold zak;rw [zam h]);by_cases h92:(s[i].toNat:Int)=92
  ·have HF:Hid (zak s i=zaJ s i):=(by show zak s i=_;rw [HE.out];rw [iP h92])
   have e92:((s[i].toNat:Int)==92)=true:=beq_iff_eq.2 h92;clear HE h92;go_enter Tryz.func161,Tryz.ntmps161;go_wp2_with fail;refine (HX _).mono ?_;rintro e w' ⟨rfl,rfl⟩
   cases hq:zaJ s i with
   | none =>
    rw [hq] at HF;clear HX hq;dsimp only [itV];go_wp2
    go_ret3
    exact ⟨by rw [HF.out];rfl,rfl⟩
   | some q =>
    obtain ⟨qb,qn⟩:=q;rw [hq] at HF;clear HX hq;dsimp only [itV];go_wp2
    go_ret3
    exact ⟨by rw [HF.out];rfl,rfl⟩
  have e92:((s[i].toNat:Int)==92)=false:=bF h92;clear HX;by_cases h93:(s[i].toNat:Int)=93
  ·have HF:Hid (zak s i=none):=(by show zak s i=_;rw [HE.out,iN h92,iP (.inl h93)])
   have e93:((s[i].toNat:Int)==93)=true:=beq_iff_eq.2 h93;clear HE h92 h93;go_enter Tryz.func161,Tryz.ntmps161;go_wp2
   go_ret3
   exact ⟨by rw [HF.out];rfl,rfl⟩
  have e93:((s[i].toNat:Int)==93)=false:=bF h93;by_cases h45:(s[i].toNat:Int)=45
  ·have HF:Hid (zak s i=none):=(by show zak s i=_;rw [HE.out,iN h92,iP (.inr (.inl h45))])
   have e45:((s[i].toNat:Int)==45)=true:=beq_iff_eq.2 h45;clear HE h92 h93 h45;go_enter Tryz.func161,Tryz.ntmps161;go_wp2
   go_ret3
   exact ⟨by rw [HF.out];rfl,rfl⟩
  have e45:((s[i].toNat:Int)==45)=false:=bF h45;by_cases h37:(s[i].toNat:Int)=37
  ·have HF:Hid (zak s i=none):=(by show zak s i=_;rw [HE.out,iN h92,iP (.inr (.inr (.inl h37)))])
   have e37:((s[i].toNat:Int)==37)=true:=beq_iff_eq.2 h37;clear HE h92 h93 h45 h37;go_enter Tryz.func161,Tryz.ntmps161;go_wp2
   go_ret3
   exact ⟨by rw [HF.out];rfl,rfl⟩
  have e37:((s[i].toNat:Int)==37)=false:=bF h37
  cases hg:zhw (s[i].toNat:Int)
  ·have HF:Hid (zak s i=none):=(by show zak s i=_;rw [HE.out,iN h92,iP (.inr (.inr (.inr hg)))])
   clear HE h92 h93 h45 h37;go_enter Tryz.func161,Tryz.ntmps161;go_wp2_with fail;refine (zcH _ _).mono ?_;rintro e w' ⟨rfl,rfl⟩;go_wp2
   go_ret3
   exact ⟨by rw [HF.out];rfl,rfl⟩
  ·have HF:Hid (zak s i=some ((s[i].toNat:Int).toNat,i+1)):=(by show zak s i=_;rw [HE.out,iN h92,iN (by rw [hg];simp;omega)])
   clear HE h92 h93 h45 h37;go_enter Tryz.func161,Tryz.ntmps161;go_wp2_with fail;refine (zcH _ _).mono ?_;rintro e w' ⟨rfl,rfl⟩;go_wp2
   go_ret3
   exact ⟨by rw [HF.out];exact ze9 (by omega) (by omega),rfl⟩
 ·have HE:Hid (zak s i=none):=(by show zak s i=none;unfold zak;rw [zau h];rfl)
  have h1:¬(i:Int)<(s.size:Int):=by omega
  go_enter Tryz.func161,Tryz.ntmps161;go_wp2
  go_ret3
  exact ⟨by rw [HE.out];rfl,rfl⟩
end Go.Proofs.YtkihfkcmcdiajabGreatDoor
