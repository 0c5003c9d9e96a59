import Derived.Deep.RegionLaw
import Derived.Laws.Bits64
import Derived.Test.YtkihfkcmcdiajabGreatDoorPo10
set_option maxRecDepth 100000
set_option maxHeartbeats 8000000
namespace Go.Proofs.YtkihfkcmcdiajabGreatDoor
open Go.RowKit
theorem zgW {s:ByteArray}:∀{l:List UInt8} {i:Nat},i<=s.size->pfx s i l=true->i+l.length<=s.size:=by
 intro l
 induction l with
 | nil=>intro i h _;exact h
 | cons c l ih =>
  intro i h hp;rw [pfx,Bool.and_eq_true] at hp;have h1:i<s.size:=zaB (by rw [beq_iff_eq.1 hp.1];omega);have:=ih (i:=i+1) (by omega) hp.2;rw [List.length_cons];omega
theorem zlX (s:ByteArray) (i:Nat) (hi:i<=s.size):∀l,i+(zhM s i l).2.length<=s.size:=by
 intro l
 induction l with
 | nil=>exact hi
 | cons p l ih =>
  rw [zhM]
  split
  ·next h=>exact zgW hi h
  ·exact ih
theorem zca (s:ByteArray) (i:Nat) (hi:i<=s.size):i+(zax s i).2.length<=s.size:=zlX s i hi _
def zbS (s:ByteArray) (b:Nat):Sum Tk (Nat×Int) :=
 if (zax s b).1=0 then .inr (b,50) else if (zax s b).1=13∨(zax s b).1=14∨(zax s b).1=15 then nmR s b (b+(zax s b).2.length) (zax s b).1
 else if (zax s b).1=21 then zcF s b (b+(zax s b).2.length) else .inl ⟨(zax s b).1,0,b,(b+(zax s b).2.length:Nat),⟨#[]⟩,0,0,0,0⟩
theorem zoA (s:ByteArray) (b:Nat) (hs:s.size<=140737488355000) (hb:b<=s.size) (h:(zax s b).1=0) (w:World) (hg:SG w):Cl 85 #[.string s,.int .i64 b] w (rB w (za1 (zbS s b))):=by
 have HC:Hid (Cl 111 #[.string s,.int .i64 b] ((w.alloc (tkO tk0)).alloc (fxO 0 0)) fun e w'=>e=.returned (.agg #[.int .i64 (zax s b).1,.string ⟨(zax s b).2.toArray⟩])/\Below ((w.alloc (tkO tk0)).alloc (fxO 0 0)).heap.size ((w.alloc (tkO tk0)).alloc (fxO 0 0)) w'):=za3 s b hb _ ((hg.later (zaa _ _)).later (zaa _ _));have HX:Hid (BX w ((w.alloc (tkO tk0)).alloc (fxO 0 0)) tk0 0 0):=BX.new w;have hln:=zca s b hb;have hz:(⟨(zax s b).2.toArray⟩:ByteArray).size=(zax s b).2.length:=by show (zax s b).2.toArray.size=_;simp
 have HF:Hid (∀i e w,Cl 104 #[.int .i64 i,.int .i64 e] w fun e' w'=>e'=.returned (zaR tk0 i e)/\bW w w'):=fun i e w=>zaK i e w
 have HE:Hid (zbS s b=.inr (b,50)):=by show zbS s b=_;unfold zbS;rw [iP h]
 generalize ByteArray.mk (zax s b).2.toArray=tx at *;generalize (zax s b).2.length=n at *;generalize (zax s b).1=k at *;obtain ⟨d,hd⟩:∃d,d=b+n:=⟨_,rfl⟩;have u1:IntKind.i64.wrap ((b:Int)+(tx.size:Int))=(d:Int):=by rw [wI];omega
 clear hd hz hln;subst h;go_enter Tryz.func85,Tryz.ntmps85;go_wp2_with fail;refine HC.mono ?_;rintro e w2 ⟨rfl,b2⟩;have HX2:Hid (BX w (w2.alloc (.cells #[.int .i64 0,.string tx] 132)) tk0 0 0):=(HX.below b2).below (zaa _ _);clear b2 HX HC;go_wp2_with fail;refine (HF _ _ _).mono ?_;rintro e w3 ⟨rfl,b3⟩;have HX3:=hO (HX2.below b3);clear b3 HX2 HF;obtain ⟨f0,f1',f2',f3,f4,f5,f6,f7,f8,g0,g1⟩:=HX3.fz;obtain ⟨c0,c1,c2,c3,c4,c5,c6,c7,c8,d0,d1⟩:=HX3.cells;unfold zaR;go_wp2_with fail;have HP:=HX3.put tk0 b 50;exact zao rfl rfl rfl rfl HP ⟨by rw [HE.out];rfl,HP.b⟩
theorem zlY (s:ByteArray) (b:Nat) (hs:s.size<=140737488355000) (hb:b<=s.size) (h:(zax s b).1=13) (w:World) (hg:SG w):Cl 85 #[.string s,.int .i64 b] w (rB w (za1 (zbS s b))):=by
 have HC:Hid (Cl 111 #[.string s,.int .i64 b] ((w.alloc (tkO tk0)).alloc (fxO 0 0)) fun e w'=>e=.returned (.agg #[.int .i64 (zax s b).1,.string ⟨(zax s b).2.toArray⟩])/\Below ((w.alloc (tkO tk0)).alloc (fxO 0 0)).heap.size ((w.alloc (tkO tk0)).alloc (fxO 0 0)) w'):=za3 s b hb _ ((hg.later (zaa _ _)).later (zaa _ _));have HX:Hid (BX w ((w.alloc (tkO tk0)).alloc (fxO 0 0)) tk0 0 0):=BX.new w;have hln:=zca s b hb;have hz:(⟨(zax s b).2.toArray⟩:ByteArray).size=(zax s b).2.length:=by show (zax s b).2.toArray.size=_;simp
 have HN:Hid (∀w,Cl 81 #[.string s,.int .i64 b,.int .i64 ((b+(zax s b).2.length:Nat):Int),.int .i64 13] w (rB w (za1 (nmR s b (b+(zax s b).2.length) 13)))):=fun w=>zbM s b _ 13 hs hln hb w
 have HE:Hid (zbS s b=nmR s b (b+(zax s b).2.length) 13):=by show zbS s b=_;unfold zbS;rw [iN (by omega),iP (by omega),h]
 generalize ByteArray.mk (zax s b).2.toArray=tx at *;generalize (zax s b).2.length=n at *;generalize (zax s b).1=k at *;obtain ⟨d,hd⟩:∃d,d=b+n:=⟨_,rfl⟩;rw [<-hd] at HE hln HN;have u1:IntKind.i64.wrap ((b:Int)+(tx.size:Int))=(d:Int):=by rw [wI];omega
 clear hd hz hln;subst h;go_enter Tryz.func85,Tryz.ntmps85;go_wp2_with fail;refine HC.mono ?_;rintro e w2 ⟨rfl,b2⟩;have HX2:Hid (BX w (w2.alloc (.cells #[.int .i64 13,.string tx] 132)) tk0 0 0):=(HX.below b2).below (zaa _ _);clear b2 HX HC;go_wp2_with fail;refine (HN _).mono ?_;rintro e w3 ⟨rfl,b3⟩;have HX3:=hO (HX2.below b3);clear b3 HX2 HN;obtain ⟨f0,f1',f2',f3,f4,f5,f6,f7,f8,g0,g1⟩:=HX3.fz;obtain ⟨c0,c1,c2,c3,c4,c5,c6,c7,c8,d0,d1⟩:=HX3.cells;generalize nmR s b d 13=r at *
 cases r with
 | inl t =>
  unfold za1;go_wp2_with fail;have HP:=HX3.put t 0 0;exact zao rfl rfl rfl rfl HP ⟨by rw [HE.out];rfl,HP.b⟩
 | inr q =>
  unfold za1;go_wp2_with fail;have HP:=HX3.put tk0 q.1 q.2;exact zao rfl rfl rfl rfl HP ⟨by rw [HE.out];rfl,HP.b⟩
theorem zlZ (s:ByteArray) (b:Nat) (hs:s.size<=140737488355000) (hb:b<=s.size) (h:(zax s b).1=14) (w:World) (hg:SG w):Cl 85 #[.string s,.int .i64 b] w (rB w (za1 (zbS s b))):=by
 have HC:Hid (Cl 111 #[.string s,.int .i64 b] ((w.alloc (tkO tk0)).alloc (fxO 0 0)) fun e w'=>e=.returned (.agg #[.int .i64 (zax s b).1,.string ⟨(zax s b).2.toArray⟩])/\Below ((w.alloc (tkO tk0)).alloc (fxO 0 0)).heap.size ((w.alloc (tkO tk0)).alloc (fxO 0 0)) w'):=za3 s b hb _ ((hg.later (zaa _ _)).later (zaa _ _));have HX:Hid (BX w ((w.alloc (tkO tk0)).alloc (fxO 0 0)) tk0 0 0):=BX.new w;have hln:=zca s b hb;have hz:(⟨(zax s b).2.toArray⟩:ByteArray).size=(zax s b).2.length:=by show (zax s b).2.toArray.size=_;simp
 have HN:Hid (∀w,Cl 81 #[.string s,.int .i64 b,.int .i64 ((b+(zax s b).2.length:Nat):Int),.int .i64 14] w (rB w (za1 (nmR s b (b+(zax s b).2.length) 14)))):=fun w=>zbM s b _ 14 hs hln hb w
 have HE:Hid (zbS s b=nmR s b (b+(zax s b).2.length) 14):=by show zbS s b=_;unfold zbS;rw [iN (by omega),iP (by omega),h]
 generalize ByteArray.mk (zax s b).2.toArray=tx at *;generalize (zax s b).2.length=n at *;generalize (zax s b).1=k at *;obtain ⟨d,hd⟩:∃d,d=b+n:=⟨_,rfl⟩;rw [<-hd] at HE hln HN;have u1:IntKind.i64.wrap ((b:Int)+(tx.size:Int))=(d:Int):=by rw [wI];omega
 clear hd hz hln;subst h;go_enter Tryz.func85,Tryz.ntmps85;go_wp2_with fail;refine HC.mono ?_;rintro e w2 ⟨rfl,b2⟩;have HX2:Hid (BX w (w2.alloc (.cells #[.int .i64 14,.string tx] 132)) tk0 0 0):=(HX.below b2).below (zaa _ _);clear b2 HX HC;go_wp2_with fail;refine (HN _).mono ?_;rintro e w3 ⟨rfl,b3⟩;have HX3:=hO (HX2.below b3);clear b3 HX2 HN;obtain ⟨f0,f1',f2',f3,f4,f5,f6,f7,f8,g0,g1⟩:=HX3.fz;obtain ⟨c0,c1,c2,c3,c4,c5,c6,c7,c8,d0,d1⟩:=HX3.cells;generalize nmR s b d 14=r at *
 cases r with
 | inl t =>
  unfold za1;go_wp2_with fail;have HP:=HX3.put t 0 0;exact zao rfl rfl rfl rfl HP ⟨by rw [HE.out];rfl,HP.b⟩
 | inr q =>
  unfold za1;go_wp2_with fail;have HP:=HX3.put tk0 q.1 q.2;exact zao rfl rfl rfl rfl HP ⟨by rw [HE.out];rfl,HP.b⟩
theorem zoB (s:ByteArray) (b:Nat) (hs:s.size<=140737488355000) (hb:b<=s.size) (h:(zax s b).1=15) (w:World) (hg:SG w):Cl 85 #[.string s,.int .i64 b] w (rB w (za1 (zbS s b))):=by
 have HC:Hid (Cl 111 #[.string s,.int .i64 b] ((w.alloc (tkO tk0)).alloc (fxO 0 0)) fun e w'=>e=.returned (.agg #[.int .i64 (zax s b).1,.string ⟨(zax s b).2.toArray⟩])/\Below ((w.alloc (tkO tk0)).alloc (fxO 0 0)).heap.size ((w.alloc (tkO tk0)).alloc (fxO 0 0)) w'):=za3 s b hb _ ((hg.later (zaa _ _)).later (zaa _ _));have HX:Hid (BX w ((w.alloc (tkO tk0)).alloc (fxO 0 0)) tk0 0 0):=BX.new w;have hln:=zca s b hb;have hz:(⟨(zax s b).2.toArray⟩:ByteArray).size=(zax s b).2.length:=by show (zax s b).2.toArray.size=_;simp
 have HN:Hid (∀w,Cl 81 #[.string s,.int .i64 b,.int .i64 ((b+(zax s b).2.length:Nat):Int),.int .i64 15] w (rB w (za1 (nmR s b (b+(zax s b).2.length) 15)))):=fun w=>zbM s b _ 15 hs hln hb w
 have HE:Hid (zbS s b=nmR s b (b+(zax s b).2.length) 15):=by show zbS s b=_;unfold zbS;rw [iN (by omega),iP (by omega),h]
 generalize ByteArray.mk (zax s b).2.toArray=tx at *;generalize (zax s b).2.length=n at *;generalize (zax s b).1=k at *;obtain ⟨d,hd⟩:∃d,d=b+n:=⟨_,rfl⟩;rw [<-hd] at HE hln HN;have u1:IntKind.i64.wrap ((b:Int)+(tx.size:Int))=(d:Int):=by rw [wI];omega
 clear hd hz hln;subst h;go_enter Tryz.func85,Tryz.ntmps85;go_wp2_with fail;refine HC.mono ?_;rintro e w2 ⟨rfl,b2⟩;have HX2:Hid (BX w (w2.alloc (.cells #[.int .i64 15,.string tx] 132)) tk0 0 0):=(HX.below b2).below (zaa _ _);clear b2 HX HC;go_wp2_with fail;refine (HN _).mono ?_;rintro e w3 ⟨rfl,b3⟩;have HX3:=hO (HX2.below b3);clear b3 HX2 HN;obtain ⟨f0,f1',f2',f3,f4,f5,f6,f7,f8,g0,g1⟩:=HX3.fz;obtain ⟨c0,c1,c2,c3,c4,c5,c6,c7,c8,d0,d1⟩:=HX3.cells;generalize nmR s b d 15=r at *
 cases r with
 | inl t =>
  unfold za1;go_wp2_with fail;have HP:=HX3.put t 0 0;exact zao rfl rfl rfl rfl HP ⟨by rw [HE.out];rfl,HP.b⟩
 | inr q =>
  unfold za1;go_wp2_with fail;have HP:=HX3.put tk0 q.1 q.2;exact zao rfl rfl rfl rfl HP ⟨by rw [HE.out];rfl,HP.b⟩
theorem zl0 (s:ByteArray) (b:Nat) (hs:s.size<=140737488355000) (hb:b<=s.size) (h:(zax s b).1=21) (w:World) (hg:SG w):Cl 85 #[.string s,.int .i64 b] w (rB w (za1 (zbS s b))):=by
 have HC:Hid (Cl 111 #[.string s,.int .i64 b] ((w.alloc (tkO tk0)).alloc (fxO 0 0)) fun e w'=>e=.returned (.agg #[.int .i64 (zax s b).1,.string ⟨(zax s b).2.toArray⟩])/\Below ((w.alloc (tkO tk0)).alloc (fxO 0 0)).heap.size ((w.alloc (tkO tk0)).alloc (fxO 0 0)) w'):=za3 s b hb _ ((hg.later (zaa _ _)).later (zaa _ _));have HX:Hid (BX w ((w.alloc (tkO tk0)).alloc (fxO 0 0)) tk0 0 0):=BX.new w;have hln:=zca s b hb;have hz:(⟨(zax s b).2.toArray⟩:ByteArray).size=(zax s b).2.length:=by show (zax s b).2.toArray.size=_;simp
 have HN:Hid (∀w,Cl 113 #[.string s,.int .i64 b,.int .i64 ((b+(zax s b).2.length:Nat):Int)] w (rB w (za1 (zcF s b (b+(zax s b).2.length))))):=fun w=>zfN s b _ hs hln w
 have HE:Hid (zbS s b=zcF s b (b+(zax s b).2.length)):=by show zbS s b=_;unfold zbS;rw [iN (by omega),iN (by omega),iP h]
 generalize ByteArray.mk (zax s b).2.toArray=tx at *;generalize (zax s b).2.length=n at *;generalize (zax s b).1=k at *;obtain ⟨d,hd⟩:∃d,d=b+n:=⟨_,rfl⟩;rw [<-hd] at HE hln HN;have u1:IntKind.i64.wrap ((b:Int)+(tx.size:Int))=(d:Int):=by rw [wI];omega
 clear hd hz hln;subst h;go_enter Tryz.func85,Tryz.ntmps85;go_wp2_with fail;refine HC.mono ?_;rintro e w2 ⟨rfl,b2⟩;have HX2:Hid (BX w (w2.alloc (.cells #[.int .i64 21,.string tx] 132)) tk0 0 0):=(HX.below b2).below (zaa _ _);clear b2 HX HC;go_wp2_with fail;refine (HN _).mono ?_;rintro e w3 ⟨rfl,b3⟩;have HX3:=hO (HX2.below b3);clear b3 HX2 HN;obtain ⟨f0,f1',f2',f3,f4,f5,f6,f7,f8,g0,g1⟩:=HX3.fz;obtain ⟨c0,c1,c2,c3,c4,c5,c6,c7,c8,d0,d1⟩:=HX3.cells;generalize zcF s b d=r at *
 cases r with
 | inl t =>
  unfold za1;go_wp2_with fail;have HP:=HX3.put t 0 0;exact zao rfl rfl rfl rfl HP ⟨by rw [HE.out];rfl,HP.b⟩
 | inr q =>
  unfold za1;go_wp2_with fail;have HP:=HX3.put tk0 q.1 q.2;exact zao rfl rfl rfl rfl HP ⟨by rw [HE.out];rfl,HP.b⟩
theorem zl1 (s:ByteArray) (b:Nat) (hs:s.size<=140737488355000) (hb:b<=s.size) (h0:¬(zax s b).1=0) (h1:¬(zax s b).1=13) (h2:¬(zax s b).1=14) (h3:¬(zax s b).1=15) (h4:¬(zax s b).1=21) (w:World) (hg:SG w):Cl 85 #[.string s,.int .i64 b] w (rB w (za1 (zbS s b))):=by
 have HC:Hid (Cl 111 #[.string s,.int .i64 b] ((w.alloc (tkO tk0)).alloc (fxO 0 0)) fun e w'=>e=.returned (.agg #[.int .i64 (zax s b).1,.string ⟨(zax s b).2.toArray⟩])/\Below ((w.alloc (tkO tk0)).alloc (fxO 0 0)).heap.size ((w.alloc (tkO tk0)).alloc (fxO 0 0)) w'):=za3 s b hb _ ((hg.later (zaa _ _)).later (zaa _ _));have HX:Hid (BX w ((w.alloc (tkO tk0)).alloc (fxO 0 0)) tk0 0 0):=BX.new w;have hln:=zca s b hb;have hz:(⟨(zax s b).2.toArray⟩:ByteArray).size=(zax s b).2.length:=by show (zax s b).2.toArray.size=_;simp
 have HE:Hid (zbS s b=.inl ⟨(zax s b).1,0,b,(b+(zax s b).2.length:Nat),⟨#[]⟩,0,0,0,0⟩):=by show zbS s b=_;unfold zbS;rw [iN h0,iN (by omega),iN h4]
 generalize ByteArray.mk (zax s b).2.toArray=tx at *;generalize (zax s b).2.length=n at *;generalize (zax s b).1=k at *;obtain ⟨d,hd⟩:∃d,d=b+n:=⟨_,rfl⟩;rw [<-hd] at HE hln;have u1:IntKind.i64.wrap ((b:Int)+(tx.size:Int))=(d:Int):=by rw [wI];omega
 clear hd hz hln;have v0:(k==0)=false:=bF h0;have v1:(k==13)=false:=bF h1;have v2:(k==14)=false:=bF h2;have v3:(k==15)=false:=bF h3;have v4:(k==21)=false:=bF h4;clear h0 h1 h2 h3 h4;go_enter Tryz.func85,Tryz.ntmps85;go_wp2_with fail;refine HC.mono ?_;rintro e w2 ⟨rfl,b2⟩;have HX2:=hO (HX.below b2);clear b2 HX HC;obtain ⟨f0,f1',f2',f3,f4,f5,f6,f7,f8,g0,g1⟩:=HX2.fz;obtain ⟨c0,c1,c2,c3,c4,c5,c6,c7,c8,d0,d1⟩:=HX2.cells;have hsz2:=HX2.size;have hl1:w.heap.size<w2.heap.size:=by omega
 have hne1:w.heap.size≠w2.heap.size:=by omega
 have hne2:w.heap.size+1≠w2.heap.size:=by omega
 go_wp2_with fail;have HP:=(HX2.put ⟨k,0,b,d,⟨#[]⟩,0,0,0,0⟩ 0 0).below (zaa _ (.cells #[.int .i64 k,.string tx] 132));exact zao rfl rfl rfl rfl HP ⟨by rw [HE.out];rfl,HP.b⟩
theorem zd2 (s:ByteArray) (b:Nat) (hs:s.size<=140737488355000) (hb:b<=s.size) (w:World) (hg:SG w):Cl 85 #[.string s,.int .i64 b] w (rB w (za1 (zbS s b))):=by
 by_cases h0:(zax s b).1=0
 ·exact zoA s b hs hb h0 w hg
 by_cases h1:(zax s b).1=13
 ·exact zlY s b hs hb h1 w hg
 by_cases h2:(zax s b).1=14
 ·exact zlZ s b hs hb h2 w hg
 by_cases h3:(zax s b).1=15
 ·exact zoB s b hs hb h3 w hg
 by_cases h4:(zax s b).1=21
 ·exact zl0 s b hs hb h4 w hg
 ·exact zl1 s b hs hb h0 h1 h2 h3 h4 w hg
theorem zoC (w:World) :
  Cl 130 #[.int .u8 97] w (rB w (.tuple #[sv (spn 65 90 ||| spn 97 122),.int .i64 0])):=by
 have HH:=hO (Holds.zero w);have HR:=hO (zaN w z4);have HQ:Hid (Below (w.heap.size+1) (w.alloc z4) (w.alloc z4)):=bR _ _;go_enter Tryz.func130,Tryz.ntmps130;go_wp2_with fail;refine (zeq _).mono ?_;rintro e w1 ⟨rfl,hb⟩
 replace HQ:=(show Hid _ from HQ.trans (hb.mono (by first | exact HQ.size | (have h:=HQ.size;simp at h;omega) | simp)))
 have HR1:=hO (HR.trans (HQ.mono (by omega)));obtain ⟨l0,c0,c1,c2,c3,f0,f1,f2,f3⟩:=HH.below HQ (by omega);generalize hr:spn 65 90 ||| spn 97 122=r;have Hr:=hO hr;clear hr;go_wp2
 exact bodyPost_ret (v:=.tuple #[sv r,.int .i64 0]) (by simp [results,Tryz.results130,go_sem, *]) rfl ⟨by rw [Hr.out],(((HR1.setCell (by simp) _).setCell (by simp) _).setCell (by simp) _).setCell (by simp) _⟩
theorem zoD (w:World) :
  Cl 130 #[.int .u8 99] w (rB w (.tuple #[sv (spn 0 31 ||| bt 127),.int .i64 0])):=by
 have HH:=hO (Holds.zero w);have HR:=hO (zaN w z4);have HQ:Hid (Below (w.heap.size+1) (w.alloc z4) (w.alloc z4)):=bR _ _;go_enter Tryz.func130,Tryz.ntmps130;go_wp2_with fail;refine (zaE 0 31 _ (by omega) (by omega) (by omega)).mono ?_;rintro e w1 ⟨rfl,hb⟩
 replace HQ:=(show Hid _ from HQ.trans (hb.mono (by first | exact HQ.size | (have h:=HQ.size;simp at h;omega) | simp)))
 go_wp2_with fail;refine (zfr _ 127 _ (by omega) (by omega)).mono ?_;rintro e w1 ⟨rfl,hb⟩
 replace HQ:=(show Hid _ from HQ.trans (hb.mono (by first | exact HQ.size | (have h:=HQ.size;simp at h;omega) | simp)))
 rw [show (127:Int).toNat=127 from rfl];have HR1:=hO (HR.trans (HQ.mono (by omega)));obtain ⟨l0,c0,c1,c2,c3,f0,f1,f2,f3⟩:=HH.below HQ (by omega);generalize hr:spn 0 31 ||| bt 127=r;have Hr:=hO hr;clear hr;go_wp2
 exact bodyPost_ret (v:=.tuple #[sv r,.int .i64 0]) (by simp [results,Tryz.results130,go_sem, *]) rfl ⟨by rw [Hr.out],(((HR1.setCell (by simp) _).setCell (by simp) _).setCell (by simp) _).setCell (by simp) _⟩
theorem zl2 (w:World) :
  Cl 130 #[.int .u8 100] w (rB w (.tuple #[sv (spn 48 57),.int .i64 0])):=by
 have HH:=hO (Holds.zero w);have HR:=hO (zaN w z4);have HQ:Hid (Below (w.heap.size+1) (w.alloc z4) (w.alloc z4)):=bR _ _;go_enter Tryz.func130,Tryz.ntmps130;go_wp2_with fail;refine (zaE 48 57 _ (by omega) (by omega) (by omega)).mono ?_;rintro e w1 ⟨rfl,hb⟩
 replace HQ:=(show Hid _ from HQ.trans (hb.mono (by first | exact HQ.size | (have h:=HQ.size;simp at h;omega) | simp)))
 have HR1:=hO (HR.trans (HQ.mono (by omega)));obtain ⟨l0,c0,c1,c2,c3,f0,f1,f2,f3⟩:=HH.below HQ (by omega);generalize hr:spn 48 57=r;have Hr:=hO hr;clear hr;go_wp2
 exact bodyPost_ret (v:=.tuple #[sv r,.int .i64 0]) (by simp [results,Tryz.results130,go_sem, *]) rfl ⟨by rw [Hr.out],(((HR1.setCell (by simp) _).setCell (by simp) _).setCell (by simp) _).setCell (by simp) _⟩
theorem zl3 (w:World) :
  Cl 130 #[.int .u8 103] w (rB w (.tuple #[sv (spn 33 126),.int .i64 0])):=by
 have HH:=hO (Holds.zero w);have HR:=hO (zaN w z4);have HQ:Hid (Below (w.heap.size+1) (w.alloc z4) (w.alloc z4)):=bR _ _;go_enter Tryz.func130,Tryz.ntmps130;go_wp2_with fail;refine (zaE 33 126 _ (by omega) (by omega) (by omega)).mono ?_;rintro e w1 ⟨rfl,hb⟩
 replace HQ:=(show Hid _ from HQ.trans (hb.mono (by first | exact HQ.size | (have h:=HQ.size;simp at h;omega) | simp)))
 have HR1:=hO (HR.trans (HQ.mono (by omega)));obtain ⟨l0,c0,c1,c2,c3,f0,f1,f2,f3⟩:=HH.below HQ (by omega);generalize hr:spn 33 126=r;have Hr:=hO hr;clear hr;go_wp2
 exact bodyPost_ret (v:=.tuple #[sv r,.int .i64 0]) (by simp [results,Tryz.results130,go_sem, *]) rfl ⟨by rw [Hr.out],(((HR1.setCell (by simp) _).setCell (by simp) _).setCell (by simp) _).setCell (by simp) _⟩
theorem zl4 (w:World) :
  Cl 130 #[.int .u8 108] w (rB w (.tuple #[sv (spn 97 122),.int .i64 0])):=by
 have HH:=hO (Holds.zero w);have HR:=hO (zaN w z4);have HQ:Hid (Below (w.heap.size+1) (w.alloc z4) (w.alloc z4)):=bR _ _;go_enter Tryz.func130,Tryz.ntmps130;go_wp2_with fail;refine (zaE 97 122 _ (by omega) (by omega) (by omega)).mono ?_;rintro e w1 ⟨rfl,hb⟩
 replace HQ:=(show Hid _ from HQ.trans (hb.mono (by first | exact HQ.size | (have h:=HQ.size;simp at h;omega) | simp)))
 have HR1:=hO (HR.trans (HQ.mono (by omega)));obtain ⟨l0,c0,c1,c2,c3,f0,f1,f2,f3⟩:=HH.below HQ (by omega);generalize hr:spn 97 122=r;have Hr:=hO hr;clear hr;go_wp2
 exact bodyPost_ret (v:=.tuple #[sv r,.int .i64 0]) (by simp [results,Tryz.results130,go_sem, *]) rfl ⟨by rw [Hr.out],(((HR1.setCell (by simp) _).setCell (by simp) _).setCell (by simp) _).setCell (by simp) _⟩
theorem zl5 (w:World) :
  Cl 130 #[.int .u8 112] w (rB w (.tuple #[sv (spn 33 126 &&& ~~~ (spn 65 90 ||| spn 97 122 ||| spn 48 57)),.int .i64 0])):=by
 have HH:=hO (Holds.zero w);have HR:=hO (zaN w z4);have HQ:Hid (Below (w.heap.size+1) (w.alloc z4) (w.alloc z4)):=bR _ _;go_enter Tryz.func130,Tryz.ntmps130;go_wp2_with fail;refine (zaE 33 126 _ (by omega) (by omega) (by omega)).mono ?_;rintro e w1 ⟨rfl,hb⟩
 replace HQ:=(show Hid _ from HQ.trans (hb.mono (by first | exact HQ.size | (have h:=HQ.size;simp at h;omega) | simp)))
 go_wp2_with fail;refine (zcg _).mono ?_;rintro e w1 ⟨rfl,hb⟩
 replace HQ:=(show Hid _ from HQ.trans (hb.mono (by first | exact HQ.size | (have h:=HQ.size;simp at h;omega) | simp)))
 go_wp2_with fail;refine (zlA _ _ _).mono ?_;rintro e w1 ⟨rfl,hb⟩
 replace HQ:=(show Hid _ from HQ.trans (hb.mono (by first | exact HQ.size | (have h:=HQ.size;simp at h;omega) | simp)))
 have HR1:=hO (HR.trans (HQ.mono (by omega)));obtain ⟨l0,c0,c1,c2,c3,f0,f1,f2,f3⟩:=HH.below HQ (by omega);generalize hr:spn 33 126 &&& ~~~ (spn 65 90 ||| spn 97 122 ||| spn 48 57)=r;have Hr:=hO hr;clear hr;go_wp2
 exact bodyPost_ret (v:=.tuple #[sv r,.int .i64 0]) (by simp [results,Tryz.results130,go_sem, *]) rfl ⟨by rw [Hr.out],(((HR1.setCell (by simp) _).setCell (by simp) _).setCell (by simp) _).setCell (by simp) _⟩
theorem zl6 (w:World) :
  Cl 130 #[.int .u8 115] w (rB w (.tuple #[sv (spn 9 13 ||| bt 32),.int .i64 0])):=by
 have HH:=hO (Holds.zero w);have HR:=hO (zaN w z4);have HQ:Hid (Below (w.heap.size+1) (w.alloc z4) (w.alloc z4)):=bR _ _;go_enter Tryz.func130,Tryz.ntmps130;go_wp2_with fail;refine (zaE 9 13 _ (by omega) (by omega) (by omega)).mono ?_;rintro e w1 ⟨rfl,hb⟩
 replace HQ:=(show Hid _ from HQ.trans (hb.mono (by first | exact HQ.size | (have h:=HQ.size;simp at h;omega) | simp)))
 go_wp2_with fail;refine (zfr _ 32 _ (by omega) (by omega)).mono ?_;rintro e w1 ⟨rfl,hb⟩
 replace HQ:=(show Hid _ from HQ.trans (hb.mono (by first | exact HQ.size | (have h:=HQ.size;simp at h;omega) | simp)))
 rw [show (32:Int).toNat=32 from rfl];have HR1:=hO (HR.trans (HQ.mono (by omega)));obtain ⟨l0,c0,c1,c2,c3,f0,f1,f2,f3⟩:=HH.below HQ (by omega);generalize hr:spn 9 13 ||| bt 32=r;have Hr:=hO hr;clear hr;go_wp2
 exact bodyPost_ret (v:=.tuple #[sv r,.int .i64 0]) (by simp [results,Tryz.results130,go_sem, *]) rfl ⟨by rw [Hr.out],(((HR1.setCell (by simp) _).setCell (by simp) _).setCell (by simp) _).setCell (by simp) _⟩
theorem zl7 (w:World) :
  Cl 130 #[.int .u8 117] w (rB w (.tuple #[sv (spn 65 90),.int .i64 0])):=by
 have HH:=hO (Holds.zero w);have HR:=hO (zaN w z4);have HQ:Hid (Below (w.heap.size+1) (w.alloc z4) (w.alloc z4)):=bR _ _;go_enter Tryz.func130,Tryz.ntmps130;go_wp2_with fail;refine (zaE 65 90 _ (by omega) (by omega) (by omega)).mono ?_;rintro e w1 ⟨rfl,hb⟩
 replace HQ:=(show Hid _ from HQ.trans (hb.mono (by first | exact HQ.size | (have h:=HQ.size;simp at h;omega) | simp)))
 have HR1:=hO (HR.trans (HQ.mono (by omega)));obtain ⟨l0,c0,c1,c2,c3,f0,f1,f2,f3⟩:=HH.below HQ (by omega);generalize hr:spn 65 90=r;have Hr:=hO hr;clear hr;go_wp2
 exact bodyPost_ret (v:=.tuple #[sv r,.int .i64 0]) (by simp [results,Tryz.results130,go_sem, *]) rfl ⟨by rw [Hr.out],(((HR1.setCell (by simp) _).setCell (by simp) _).setCell (by simp) _).setCell (by simp) _⟩
theorem zl8 (w:World) :
  Cl 130 #[.int .u8 119] w (rB w (.tuple #[sv (spn 65 90 ||| spn 97 122 ||| spn 48 57),.int .i64 0])):=by
 have HH:=hO (Holds.zero w);have HR:=hO (zaN w z4);have HQ:Hid (Below (w.heap.size+1) (w.alloc z4) (w.alloc z4)):=bR _ _;go_enter Tryz.func130,Tryz.ntmps130;go_wp2_with fail;refine (zcg _).mono ?_;rintro e w1 ⟨rfl,hb⟩
 replace HQ:=(show Hid _ from HQ.trans (hb.mono (by first | exact HQ.size | (have h:=HQ.size;simp at h;omega) | simp)))
 have HR1:=hO (HR.trans (HQ.mono (by omega)));obtain ⟨l0,c0,c1,c2,c3,f0,f1,f2,f3⟩:=HH.below HQ (by omega);generalize hr:spn 65 90 ||| spn 97 122 ||| spn 48 57=r;have Hr:=hO hr;clear hr;go_wp2
 exact bodyPost_ret (v:=.tuple #[sv r,.int .i64 0]) (by simp [results,Tryz.results130,go_sem, *]) rfl ⟨by rw [Hr.out],(((HR1.setCell (by simp) _).setCell (by simp) _).setCell (by simp) _).setCell (by simp) _⟩
theorem zl9 (w:World) :
  Cl 130 #[.int .u8 120] w (rB w (.tuple #[sv (spn 48 57 ||| spn 65 70 ||| spn 97 102),.int .i64 0])):=by
 have HH:=hO (Holds.zero w);have HR:=hO (zaN w z4);have HQ:Hid (Below (w.heap.size+1) (w.alloc z4) (w.alloc z4)):=bR _ _;go_enter Tryz.func130,Tryz.ntmps130;go_wp2_with fail;refine (zaE 48 57 _ (by omega) (by omega) (by omega)).mono ?_;rintro e w1 ⟨rfl,hb⟩
 replace HQ:=(show Hid _ from HQ.trans (hb.mono (by first | exact HQ.size | (have h:=HQ.size;simp at h;omega) | simp)))
 go_wp2_with fail;refine (zcY _ 65 70 _ (by omega) (by omega) (by omega)).mono ?_;rintro e w1 ⟨rfl,hb⟩
 replace HQ:=(show Hid _ from HQ.trans (hb.mono (by first | exact HQ.size | (have h:=HQ.size;simp at h;omega) | simp)))
 go_wp2_with fail;refine (zcY _ 97 102 _ (by omega) (by omega) (by omega)).mono ?_;rintro e w1 ⟨rfl,hb⟩
 replace HQ:=(show Hid _ from HQ.trans (hb.mono (by first | exact HQ.size | (have h:=HQ.size;simp at h;omega) | simp)))
 have HR1:=hO (HR.trans (HQ.mono (by omega)));obtain ⟨l0,c0,c1,c2,c3,f0,f1,f2,f3⟩:=HH.below HQ (by omega);generalize hr:spn 48 57 ||| spn 65 70 ||| spn 97 102=r;have Hr:=hO hr;clear hr;go_wp2
 exact bodyPost_ret (v:=.tuple #[sv r,.int .i64 0]) (by simp [results,Tryz.results130,go_sem, *]) rfl ⟨by rw [Hr.out],(((HR1.setCell (by simp) _).setCell (by simp) _).setCell (by simp) _).setCell (by simp) _⟩
theorem zjU (n:Int) (w:World) (h97:(n==97)=false) (h99:(n==99)=false) (h100:(n==100)=false) (h103:(n==103)=false) (h108:(n==108)=false) (h112:(n==112)=false) (h115:(n==115)=false) (h117:(n==117)=false) (h119:(n==119)=false) (h120:(n==120)=false) :
  Cl 130 #[.int .u8 n] w (rB w (.tuple #[sv 0#256,.int .i64 10])):=by
 have HR:=hO (zaN w z4);go_enter Tryz.func130,Tryz.ntmps130;go_wp2
 exact bodyPost_ret (v:=.tuple #[sv 0#256,.int .i64 10]) (by simp [results,Tryz.results130,go_sem,zal]) rfl ⟨rfl,HR.out⟩
theorem zeH (n:Nat) (w:World) :
  Cl 130 #[.int .u8 n] w (rB w (.tuple #[sv (sml n).1,.int .i64 (sml n).2])):=by
 by_cases h97:n=97
 ·subst h97;rw [znJ];exact zoC w
 by_cases h99:n=99
 ·subst h99;rw [znK];exact zoD w
 by_cases h100:n=100
 ·subst h100;rw [zi1];exact zl2 w
 by_cases h103:n=103
 ·subst h103;rw [zi2];exact zl3 w
 by_cases h108:n=108
 ·subst h108;rw [zi3];exact zl4 w
 by_cases h112:n=112
 ·subst h112;rw [zi4];exact zl5 w
 by_cases h115:n=115
 ·subst h115;rw [zi5];exact zl6 w
 by_cases h117:n=117
 ·subst h117;rw [zi6];exact zl7 w
 by_cases h119:n=119
 ·subst h119;rw [zi7];exact zl8 w
 by_cases h120:n=120
 ·subst h120;rw [zi8];exact zl9 w
 rw [zfv n h97 h99 h100 h103 h108 h112 h115 h117 h119 h120];exact zjU n w (bF (by omega)) (bF (by omega)) (bF (by omega)) (bF (by omega)) (bF (by omega)) (bF (by omega)) (bF (by omega)) (bF (by omega)) (bF (by omega)) (bF (by omega))
theorem zeI (n:Nat) (h:¬(65<=n/\n<=90)):cls n=sml n:=by unfold cls;rw [iN h]
theorem zgX (n:Nat) (h:65<=n/\n<=90) (he:(sml (n+32)).2=0):cls n=(~~~ (sml (n+32)).1,0):=by unfold cls;rw [iP h,iP he]
theorem zjV (n:Nat) (h:65<=n/\n<=90) (he:(sml (n+32)).2=10):cls n=(0#256,10):=by
 unfold cls;rw [iP h,iN (by omega),he]
theorem zcn {B:Nat} {w w':World} {b:Nat} (h:Below B w w') (hb:B<=b) (y:BitVec 256):Below B w (znF w' b y) :=
 (((h.setCell hb _).setCell hb _).setCell hb _).setCell hb _
theorem zeJ (n:Nat) (hn:n<256) (w:World) :
  Cl 112 #[.int .u8 n] w (rB w (.tuple #[sv (cls n).1,.int .i64 (cls n).2])):=by
 have HH:=hO (Holds.zero w);have HR:=hO (zaN w z4);have hw8:IntKind.i64.wrap (n:Int)=(n:Int):=by rw [wI];omega
 by_cases hc:65<=n/\n<=90
 ·have hcap:znI (n:Int)=true:=by simp [znI];omega
  have hn1:(n:Int)<=90:=by omega
  have Hc:=hO hc;clear hc
  rcases zdN (n+32) with he | he
  ·have HE:=hO (zgX n Hc he)
   go_enter Tryz.func112,Tryz.ntmps112;go_wp2_with fail;refine (zcq _ _).mono ?_;rintro e w1 ⟨rfl,rfl⟩;go_wp2_with fail;rw [show (n:Int)+32=((n+32:Nat):Int) from by omega];refine (zeH (n+32) _).mono ?_;rintro e w1 ⟨rfl,hb⟩;have hl:w.heap.size<w1.heap.size:=by have h:=hb.size;simp at h;omega
   have HR1:=hO (HR.trans (hb.mono (by simp)));have HH1:=hO (HH.below hb (by simp));rw [he];clear he hb HH HR;generalize (sml (n+32)).1=r at *;go_wp2_with fail;refine (zgD r _).mono ?_;rintro e w2 ⟨rfl,hb⟩;have HR2:=hO ((HR1.alloc (by omega) (c4 r)).trans (hb.mono (by simp;omega)));have hl2:w.heap.size<w2.heap.size:=by have h:=hb.size;simp at h;omega
   obtain ⟨l0,c0,c1,c2,c3,f0,f1,f2,f3⟩:=(HH1.alloc (c4 r)).below hb (by simp;omega);generalize hr : ~~~ r=q at *;clear hr hb;go_wp2
   rw [HE.out];refine bodyPost_ret (v:=.tuple #[sv q,.int .i64 0]) (by simp [results,Tryz.results112,go_sem, *]) rfl ⟨rfl,zcn HR2 (nL _) _⟩
  ·have HE:=hO (zjV n Hc he)
   go_enter Tryz.func112,Tryz.ntmps112;go_wp2_with fail;refine (zcq _ _).mono ?_;rintro e w1 ⟨rfl,rfl⟩;go_wp2_with fail;rw [show (n:Int)+32=((n+32:Nat):Int) from by omega];refine (zeH (n+32) _).mono ?_;rintro e w1 ⟨rfl,hb⟩;have hl:w.heap.size<w1.heap.size:=by have h:=hb.size;simp at h;omega
   have HR1:=hO (HR.trans (hb.mono (by simp)));obtain ⟨l0,c0,c1,c2,c3,f0,f1,f2,f3⟩:=HH.below hb (by simp);rw [he];clear he hb HH HR;generalize (sml (n+32)).1=r at *;go_wp2
   rw [HE.out];refine bodyPost_ret (v:=.tuple #[sv 0#256,.int .i64 10]) (by simp [results,Tryz.results112,go_sem,zal, *]) rfl ⟨rfl,?_⟩
   repeat (first | exact HR1.out | (refine Below.setCell ?_ (by first | omega | (simp <;> omega)) _) | (refine Below.alloc ?_ (by first | omega | (simp <;> omega)) _))
 ·have hcap:znI (n:Int)=false:=by simp [znI];omega
  have HE:=hO (zeI n hc);clear hc;go_enter Tryz.func112,Tryz.ntmps112;go_wp2_with fail;refine (zcq _ _).mono ?_;rintro e w1 ⟨rfl,rfl⟩;go_wp2_with fail;refine (zeH n _).mono ?_;rintro e w1 ⟨rfl,hb⟩;have hl:w.heap.size<w1.heap.size:=by have h:=hb.size;simp at h;omega
  have HR1:=hO (HR.trans (hb.mono (by simp)));obtain ⟨l0,c0,c1,c2,c3,f0,f1,f2,f3⟩:=HH.below hb (by simp);clear hb HH HR;generalize sml n=rq at *;obtain ⟨r,q⟩:=rq;dsimp only;go_wp2
  refine bodyPost_ret (v:=.tuple #[sv r,.int .i64 q]) (by simp [results,Tryz.results112,go_sem, *]) rfl ⟨by rw [HE.out],zcn HR1 (nL _) _⟩
theorem below_drewN {B:Nat} {a w:World} (h:Below B a w) (n:Nat):Below B a (w.drewN n):=by
 induction n with
 | zero=>exact h
 | succ n ih=>exact ih.drew
theorem zne {f:FuncId} {args:Array Value} {v:Value} {w:World} (h:Cl f args w (rU w v)):Cl f args w fun e w'=>e=.returned v/\∃n,w'=w.drewN n:=h.mono fun _ _ ⟨h1,h2⟩=>⟨h1,0,h2⟩
theorem zjW (s:ByteArray):∀m i,i<=hx7 s i m/\hx7 s i m<=i+m/\(i<=s.size->hx7 s i m<=s.size):=by
 intro m
 induction m with
 | zero=>intro i;exact ⟨nL _,nL _,fun q=>q⟩
 | succ m ih =>
  intro i;rw [hx7]
  split
  ·next h =>
   have h1:=zeg h;obtain ⟨a,b,c⟩:=ih (i+1);exact ⟨by omega,by omega,fun _=>c (by omega)⟩
  ·exact ⟨nL _,by omega,fun q=>q⟩
theorem zjX (s:ByteArray):∀m i k,i<=k->k<hx7 s i m->0<=zaI (chr s k):=by
 intro m
 induction m with
 | zero=>intro i k h1 h2;rw [hx7] at h2;omega
 | succ m ih =>
  intro i k h1 h2;rw [hx7] at h2
  split at h2
  ·next h =>
   by_cases e:k=i
   ·subst e;exact h
   ·exact ih (i+1) k (by omega) h2
  ·omega
theorem zjY (s:ByteArray) (i:Nat) (base:Int) (hb:0<=base):∀k,(∀j,j<k->0<=zaI (chr s (i+j)))->0<=zaF s i base k:=by
 intro k
 induction k with
 | zero=>intro _;exact Int.le_refl _
 | succ k ih =>
  intro h;rw [zaF];have h1:=Int.mul_nonneg (ih (fun j hj=>h j (by omega))) hb;have h2:=h k (by omega);omega
def zgz (s:ByteArray) (b f1 e1 f2 e2:Nat):Sum Tk (Nat×Int) :=
 if e1=f1∨f1+6<e1∨e2=f2∨f2+6<e2∨chr s e2≠125 then .inr (b,30)
 else if zaF s f2 16 (e2 - f2)<zaF s f1 16 (e1 - f1)∨1114111<zaF s f2 16 (e2 - f2) then .inr (b,30)
 else .inl ⟨5,zaF s f1 16 (e1 - f1),b,e2+1,⟨#[]⟩,zaF s f2 16 (e2 - f2),0,0,0⟩
theorem ptsR_y {s:ByteArray} {b:Nat} (h:chr s (zbV s (b+3))=45):zbZ s b=zgz s b (b+3) (zbV s (b+3)) (zbV s (b+3)+1) (zbV s (zbV s (b+3)+1)):=by unfold zbZ zgz;simp only [h,if_true]
theorem ptsR_n {s:ByteArray} {b:Nat} (h:¬chr s (zbV s (b+3))=45):zbZ s b=zgz s b (b+3) (zbV s (b+3)) (b+3) (zbV s (b+3)):=by unfold zbZ zgz;simp only [iN h]
theorem zgY (s:ByteArray) (b e1:Nat) (hs:s.size<=140737488355000) (hb:b+3<=s.size) (he1:e1=zbV s (b+3)) (hd:chr s e1=45) (w:World):Cl 71 #[.string s,.int .i64 b] w (rB w (zct (zbZ s b))):=by
 have HWr:Hid (∀i e w,Cl 43 #[.int .i64 i,.int .i64 e] w fun e' w'=>e'=.returned (.tuple #[tkG tk0,.int .i64 i,.int .i64 e])/\bW w w'):=fun i e w=>zbP i e w
 have HA:Hid (∀k w,Cl 40 #[.string s,.int .i64 ((k:Nat):Int)] w (rU w (.int .i64 (chr s k)))):=fun k w=>za0 s k w
 have HH1:Hid (∀w,Cl 96 #[.string s,.int .i64 ((b:Int)+3)] w (rU w (.int .i64 e1))):=fun w=>by
  have h:=zgI s (b+3) (by omega) (by omega) w;rw [<-he1] at h;exact h
 have hbd1:=zjW s 7 (b+3);rw [show hx7 s (b+3) 7=e1 from he1.symm] at hbd1;have t0:(chr s e1==45)=true:=by rw [hd];rfl
 have h1s:e1<s.size:=zaB (by omega);obtain ⟨e2,he2⟩:∃e2,e2=zbV s (e1+1):=⟨_,rfl⟩;have HH2:Hid (∀w,Cl 96 #[.string s,.int .i64 ((e1:Int)+1)] w (rU w (.int .i64 e2))):=fun w=>by
  have h:=zgI s (e1+1) (by omega) (by omega) w;rw [<-he2] at h;exact h
 have hbd2:=zjW s 7 (e1+1);rw [show hx7 s (e1+1) 7=e2 from he2.symm] at hbd2;have HU:Hid (zbZ s b=zgz s b (b+3) e1 (e1+1) e2):=by
  show zbZ s b=_
  rw [ptsR_y (by rw [<-he1];exact hd),<-he1,<-he2]
 have hnn:0<=zaF s (e1+1) 16 (e2 - (e1+1)):=zjY s _ 16 (by omega) _ (fun k hk=>zjX s 7 (e1+1) _ (by omega) (by rw [show hx7 s (e1+1) 7=e2 from he2.symm];omega));have hl1:=hbd1.2.2 hb;have hl2:=hbd2.2.2 (by omega);have hg1:=hbd1.1;have hg2:=hbd2.1;clear hbd1 hbd2 he1 he2 hd;have HW:Hid (∀f e w,f<=e->e<=f+6->e<=s.size->Cl 64 #[.string (s.extract f e),.int .i64 16] w fun e' w'=>e'=.returned (.int .i64 (zaF s f 16 (e - f)))/\w'=w):=fun f e w h1 h2 h3=>by
  have hsz:(s.extract f e).size=e - f:=by rw [ByteArray.size_extract];omega
  have h:=zdm (s.extract f e) 16 (by omega) (by omega) w;rw [hsz,zcr (by omega) (e - f) (by omega)] at h;exact h
 have HX:Hid (TX (w.alloc (tkO tk0)) w.heap.size tk0):=TX.new w tk0;have HB:Hid (bW w (w.alloc (tkO tk0))):=zaa w _;by_cases h1:e1=b+3
 ·have HE:Hid (zbZ s b=.inr (b,30)):=by show zbZ s b=_;rw [HU.out];unfold zgz;rw [iP (.inl h1)]
  have t1:((e1:Int)==(b:Int)+3)=true:=by rw [beq_iff_eq];omega
  clear HU HW h1;go_enter Tryz.func71,Tryz.ntmps71;go_wp2_with fail;refine (HH1 _).mono ?_;rintro e w2 ⟨rfl,rfl⟩;go_wp2_with fail;refine (HA _ _).mono ?_;rintro e w2 ⟨rfl,rfl⟩;go_wp2_with fail;refine (HH2 _).mono ?_;rintro e w2 ⟨rfl,rfl⟩;go_wp2_with fail;refine (HWr _ _ _).mono ?_;rintro e w3 ⟨rfl,b3⟩;have HX3:=hO (HX.below b3);have HB3:Hid (bW w w3):=HB.trans (b3.mono HB.size);clear b3 HWr HX HB;obtain ⟨c0,c1,c2,c3,c4,c5,c6,c7,c8⟩:=HX3.cells;obtain ⟨f0,f1',f2',f3,f4,f5,f6,f7,f8⟩:=HX3.fz;go_wp2_with fail;exact zai rfl rfl rfl rfl rfl (zar HX3 tk0) ⟨by rw [HE.out];rfl,zac HB3 (nL _) tk0⟩
 have t1:((e1:Int)==(b:Int)+3)=false:=by rw [beq_eq_false_iff_ne];omega
 by_cases h2:b+3+6<e1
 ·have HE:Hid (zbZ s b=.inr (b,30)):=by show zbZ s b=_;rw [HU.out];unfold zgz;rw [iP (.inr (.inl h2))]
  have t2:(b:Int)+3+6<(e1:Int):=by omega
  clear HU HW;go_enter Tryz.func71,Tryz.ntmps71;go_wp2_with fail;refine (HH1 _).mono ?_;rintro e w2 ⟨rfl,rfl⟩;go_wp2_with fail;refine (HA _ _).mono ?_;rintro e w2 ⟨rfl,rfl⟩;go_wp2_with fail;refine (HH2 _).mono ?_;rintro e w2 ⟨rfl,rfl⟩;go_wp2_with fail;refine (HWr _ _ _).mono ?_;rintro e w3 ⟨rfl,b3⟩;have HX3:=hO (HX.below b3);have HB3:Hid (bW w w3):=HB.trans (b3.mono HB.size);clear b3 HWr HX HB;obtain ⟨c0,c1,c2,c3,c4,c5,c6,c7,c8⟩:=HX3.cells;obtain ⟨f0,f1',f2',f3,f4,f5,f6,f7,f8⟩:=HX3.fz;go_wp2_with fail;exact zai rfl rfl rfl rfl rfl (zar HX3 tk0) ⟨by rw [HE.out];rfl,zac HB3 (nL _) tk0⟩
 have t2:¬(b:Int)+3+6<(e1:Int):=by omega
 by_cases h3:e2=e1+1
 ·have HE:Hid (zbZ s b=.inr (b,30)):=by show zbZ s b=_;rw [HU.out];unfold zgz;rw [iP (.inr (.inr (.inl h3)))]
  have t3:((e2:Int)==(e1:Int)+1)=true:=by rw [beq_iff_eq];omega
  clear HU HW h3;go_enter Tryz.func71,Tryz.ntmps71;go_wp2_with fail;refine (HH1 _).mono ?_;rintro e w2 ⟨rfl,rfl⟩;go_wp2_with fail;refine (HA _ _).mono ?_;rintro e w2 ⟨rfl,rfl⟩;go_wp2_with fail;refine (HH2 _).mono ?_;rintro e w2 ⟨rfl,rfl⟩;go_wp2_with fail;refine (HWr _ _ _).mono ?_;rintro e w3 ⟨rfl,b3⟩;have HX3:=hO (HX.below b3);have HB3:Hid (bW w w3):=HB.trans (b3.mono HB.size);clear b3 HWr HX HB;obtain ⟨c0,c1,c2,c3,c4,c5,c6,c7,c8⟩:=HX3.cells;obtain ⟨f0,f1',f2',f3,f4,f5,f6,f7,f8⟩:=HX3.fz;go_wp2_with fail;exact zai rfl rfl rfl rfl rfl (zar HX3 tk0) ⟨by rw [HE.out];rfl,zac HB3 (nL _) tk0⟩
 have t3:((e2:Int)==(e1:Int)+1)=false:=by rw [beq_eq_false_iff_ne];omega
 by_cases h4:e1+1+6<e2
 ·have HE:Hid (zbZ s b=.inr (b,30)):=by show zbZ s b=_;rw [HU.out];unfold zgz;rw [iP (.inr (.inr (.inr (.inl h4))))]
  have t4:(e1:Int)+1+6<(e2:Int):=by omega
  clear HU HW;go_enter Tryz.func71,Tryz.ntmps71;go_wp2_with fail;refine (HH1 _).mono ?_;rintro e w2 ⟨rfl,rfl⟩;go_wp2_with fail;refine (HA _ _).mono ?_;rintro e w2 ⟨rfl,rfl⟩;go_wp2_with fail;refine (HH2 _).mono ?_;rintro e w2 ⟨rfl,rfl⟩;go_wp2_with fail;refine (HWr _ _ _).mono ?_;rintro e w3 ⟨rfl,b3⟩;have HX3:=hO (HX.below b3);have HB3:Hid (bW w w3):=HB.trans (b3.mono HB.size);clear b3 HWr HX HB;obtain ⟨c0,c1,c2,c3,c4,c5,c6,c7,c8⟩:=HX3.cells;obtain ⟨f0,f1',f2',f3,f4,f5,f6,f7,f8⟩:=HX3.fz;go_wp2_with fail;exact zai rfl rfl rfl rfl rfl (zar HX3 tk0) ⟨by rw [HE.out];rfl,zac HB3 (nL _) tk0⟩
 have t4:¬(e1:Int)+1+6<(e2:Int):=by omega
 by_cases h5:chr s e2=125
 ·have t5:(chr s e2 != 125)=false:=by rw [h5];rfl
  have HV:Hid (zbZ s b=if zaF s (e1+1) 16 (e2 - (e1+1))<zaF s (b+3) 16 (e1 - (b+3))∨1114111<zaF s (e1+1) 16 (e2 - (e1+1)) then .inr (b,30) else .inl ⟨5,zaF s (b+3) 16 (e1 - (b+3)),b,e2+1,⟨#[]⟩,zaF s (e1+1) 16 (e2 - (e1+1)),0,0,0⟩):=by show zbZ s b=_;rw [HU.out];unfold zgz;rw [iN (by omega)]
  have HW1:Hid (∀w,Cl 64 #[.string (s.extract (b+3) e1),.int .i64 16] w fun e' w'=>e'=.returned (.int .i64 (zaF s (b+3) 16 (e1 - (b+3))))/\w'=w):=fun w=>HW (b+3) e1 w (by omega) (by omega) (by omega)
  have HW2:Hid (∀w,Cl 64 #[.string (s.extract (e1+1) e2),.int .i64 16] w fun e' w'=>e'=.returned (.int .i64 (zaF s (e1+1) 16 (e2 - (e1+1))))/\w'=w):=fun w=>HW (e1+1) e2 w (by omega) (by omega) (by omega)
  clear HU HW h5;generalize zaF s (b+3) 16 (e1 - (b+3))=x1 at *;generalize zaF s (e1+1) 16 (e2 - (e1+1))=x2 at *;have y1:(0:Int)<=(b:Int)+3:=by omega
  have y2:(b:Int)+3<=(e1:Int):=by omega
  have y3:(e1:Int)<=(s.size:Int):=by omega
  have y4:(0:Int)<=(e1:Int)+1:=by omega
  have y5:(e1:Int)+1<=(e2:Int):=by omega
  have y6:(e2:Int)<=(s.size:Int):=by omega
  by_cases g1:x2<x1
  ·have HE:Hid (zbZ s b=.inr (b,30)):=by show zbZ s b=_;rw [HV.out,iP (.inl g1)]
   have v1:decide (x2<x1)=true:=decide_eq_true g1;clear HV;go_enter Tryz.func71,Tryz.ntmps71;go_wp2_with fail;refine (HH1 _).mono ?_;rintro e w2 ⟨rfl,rfl⟩;go_wp2_with fail;refine (HA _ _).mono ?_;rintro e w2 ⟨rfl,rfl⟩;go_wp2_with fail;refine (HH2 _).mono ?_;rintro e w2 ⟨rfl,rfl⟩;go_wp2_with fail;refine (HA _ _).mono ?_;rintro e w2 ⟨rfl,rfl⟩;clear HH1 HH2 HA;go_wp2_with fail;go_quiet ((go_at_call 64;first | with_reducible exact Calls.quiet_of (zne (HW1.out _)) | with_reducible exact Calls.quiet_of (zne (HW2.out _))))
   have HXd:Hid (TX ((w.alloc (.cells #[.int .i64 0,.int .i64 0,.int .i64 0,.int .i64 0,.string ⟨#[]⟩,.int .u64 0,.int .u64 0,.int .u64 0,.int .u64 0] 69)).drewN nq) w.heap.size tk0):=HX.below (below_drewN (bR _ _) nq);have HBd:Hid (bW w ((w.alloc (.cells #[.int .i64 0,.int .i64 0,.int .i64 0,.int .i64 0,.string ⟨#[]⟩,.int .u64 0,.int .u64 0,.int .u64 0,.int .u64 0] 69)).drewN nq)):=below_drewN HB nq;clear HW1 HW2;generalize (w.alloc (.cells #[.int .i64 0,.int .i64 0,.int .i64 0,.int .i64 0,.string ⟨#[]⟩,.int .u64 0,.int .u64 0,.int .u64 0,.int .u64 0] 69)).drewN nq=w5 at *;go_wp2_with fail;refine (HWr _ _ _).mono ?_;rintro e w3 ⟨rfl,b3⟩;have HX3:=hO (HXd.below b3);have HB3:Hid (bW w w3):=HBd.trans (b3.mono HBd.size);clear b3 HWr HX HB HXd HBd;obtain ⟨c0,c1,c2,c3,c4,c5,c6,c7,c8⟩:=HX3.cells;obtain ⟨f0,f1',f2',f3,f4,f5,f6,f7,f8⟩:=HX3.fz;go_wp2_with fail;exact zai rfl rfl rfl rfl rfl (zar HX3 tk0) ⟨by rw [HE.out];rfl,zac HB3 (nL _) tk0⟩
  have v1:decide (x2<x1)=false:=dF g1;by_cases g2:1114111<x2
  ·have HE:Hid (zbZ s b=.inr (b,30)):=by show zbZ s b=_;rw [HV.out,iP (.inr g2)]
   have v2:decide (1114111<x2)=true:=decide_eq_true g2;clear HV;go_enter Tryz.func71,Tryz.ntmps71;go_wp2_with fail;refine (HH1 _).mono ?_;rintro e w2 ⟨rfl,rfl⟩;go_wp2_with fail;refine (HA _ _).mono ?_;rintro e w2 ⟨rfl,rfl⟩;go_wp2_with fail;refine (HH2 _).mono ?_;rintro e w2 ⟨rfl,rfl⟩;go_wp2_with fail;refine (HA _ _).mono ?_;rintro e w2 ⟨rfl,rfl⟩;clear HH1 HH2 HA;go_wp2_with fail;go_quiet ((go_at_call 64;first | with_reducible exact Calls.quiet_of (zne (HW1.out _)) | with_reducible exact Calls.quiet_of (zne (HW2.out _))))
   have HXd:Hid (TX ((w.alloc (.cells #[.int .i64 0,.int .i64 0,.int .i64 0,.int .i64 0,.string ⟨#[]⟩,.int .u64 0,.int .u64 0,.int .u64 0,.int .u64 0] 69)).drewN nq) w.heap.size tk0):=HX.below (below_drewN (bR _ _) nq);have HBd:Hid (bW w ((w.alloc (.cells #[.int .i64 0,.int .i64 0,.int .i64 0,.int .i64 0,.string ⟨#[]⟩,.int .u64 0,.int .u64 0,.int .u64 0,.int .u64 0] 69)).drewN nq)):=below_drewN HB nq;clear HW1 HW2;generalize (w.alloc (.cells #[.int .i64 0,.int .i64 0,.int .i64 0,.int .i64 0,.string ⟨#[]⟩,.int .u64 0,.int .u64 0,.int .u64 0,.int .u64 0] 69)).drewN nq=w5 at *;go_wp2_with fail;refine (HWr _ _ _).mono ?_;rintro e w3 ⟨rfl,b3⟩;have HX3:=hO (HXd.below b3);have HB3:Hid (bW w w3):=HBd.trans (b3.mono HBd.size);clear b3 HWr HX HB HXd HBd;obtain ⟨c0,c1,c2,c3,c4,c5,c6,c7,c8⟩:=HX3.cells;obtain ⟨f0,f1',f2',f3,f4,f5,f6,f7,f8⟩:=HX3.fz;go_wp2_with fail;exact zai rfl rfl rfl rfl rfl (zar HX3 tk0) ⟨by rw [HE.out];rfl,zac HB3 (nL _) tk0⟩
  ·have HE:Hid (zbZ s b=.inl ⟨5,x1,b,e2+1,⟨#[]⟩,x2,0,0,0⟩):=by show zbZ s b=_;rw [HV.out,iN (by omega)]
   have v2:decide (1114111<x2)=false:=dF g2;have u9:IntKind.u64.wrap x2=x2:=by rw [IntKind.wrap_u64];omega
   clear HV HWr;go_enter Tryz.func71,Tryz.ntmps71;go_wp2_with fail;refine (HH1 _).mono ?_;rintro e w2 ⟨rfl,rfl⟩;go_wp2_with fail;refine (HA _ _).mono ?_;rintro e w2 ⟨rfl,rfl⟩;go_wp2_with fail;refine (HH2 _).mono ?_;rintro e w2 ⟨rfl,rfl⟩;go_wp2_with fail;refine (HA _ _).mono ?_;rintro e w2 ⟨rfl,rfl⟩;clear HH1 HH2 HA;go_wp2_with fail;go_quiet ((go_at_call 64;first | with_reducible exact Calls.quiet_of (zne (HW1.out _)) | with_reducible exact Calls.quiet_of (zne (HW2.out _))))
   have HXd:Hid (TX ((w.alloc (.cells #[.int .i64 0,.int .i64 0,.int .i64 0,.int .i64 0,.string ⟨#[]⟩,.int .u64 0,.int .u64 0,.int .u64 0,.int .u64 0] 69)).drewN nq) w.heap.size tk0):=HX.below (below_drewN (bR _ _) nq);have HBd:Hid (bW w ((w.alloc (.cells #[.int .i64 0,.int .i64 0,.int .i64 0,.int .i64 0,.string ⟨#[]⟩,.int .u64 0,.int .u64 0,.int .u64 0,.int .u64 0] 69)).drewN nq)):=below_drewN HB nq;clear HW1 HW2;generalize (w.alloc (.cells #[.int .i64 0,.int .i64 0,.int .i64 0,.int .i64 0,.string ⟨#[]⟩,.int .u64 0,.int .u64 0,.int .u64 0,.int .u64 0] 69)).drewN nq=w5 at *;obtain ⟨c0,c1,c2,c3,c4,c5,c6,c7,c8⟩:=HXd.cells;obtain ⟨q0,q1,q2,q3,q4,q5,q6,q7,q8⟩:=HXd.fz;go_wp2_with fail;exact zai (t:=⟨5,x1,b,e2+1,⟨#[]⟩,x2,0,0,0⟩) (p:=0) (e:=0) rfl rfl rfl rfl rfl (zar HXd.out ⟨5,x1,b,e2+1,⟨#[]⟩,x2,0,0,0⟩) ⟨by rw [HE.out];rfl,zac HBd (nL _) ⟨5,x1,b,e2+1,⟨#[]⟩,x2,0,0,0⟩⟩
 ·have t5:(chr s e2 != 125)=true:=by rw [bne,bF h5];rfl
  have HE:Hid (zbZ s b=.inr (b,30)):=by show zbZ s b=_;rw [HU.out];unfold zgz;rw [iP (.inr (.inr (.inr (.inr h5))))]
  clear HU HW h5;go_enter Tryz.func71,Tryz.ntmps71;go_wp2_with fail;refine (HH1 _).mono ?_;rintro e w2 ⟨rfl,rfl⟩;go_wp2_with fail;refine (HA _ _).mono ?_;rintro e w2 ⟨rfl,rfl⟩;go_wp2_with fail;refine (HH2 _).mono ?_;rintro e w2 ⟨rfl,rfl⟩;go_wp2_with fail;refine (HA _ _).mono ?_;rintro e w2 ⟨rfl,rfl⟩;go_wp2_with fail;refine (HWr _ _ _).mono ?_;rintro e w3 ⟨rfl,b3⟩;have HX3:=hO (HX.below b3);have HB3:Hid (bW w w3):=HB.trans (b3.mono HB.size);clear b3 HWr HX HB;obtain ⟨c0,c1,c2,c3,c4,c5,c6,c7,c8⟩:=HX3.cells;obtain ⟨f0,f1',f2',f3,f4,f5,f6,f7,f8⟩:=HX3.fz;go_wp2_with fail;exact zai rfl rfl rfl rfl rfl (zar HX3 tk0) ⟨by rw [HE.out];rfl,zac HB3 (nL _) tk0⟩
theorem zgi (s:ByteArray) (b e1:Nat) (hs:s.size<=140737488355000) (hb:b+3<=s.size) (he1:e1=zbV s (b+3)) (hd:¬chr s e1=45) (w:World):Cl 71 #[.string s,.int .i64 b] w (rB w (zct (zbZ s b))):=by
 have HWr:Hid (∀i e w,Cl 43 #[.int .i64 i,.int .i64 e] w fun e' w'=>e'=.returned (.tuple #[tkG tk0,.int .i64 i,.int .i64 e])/\bW w w'):=fun i e w=>zbP i e w
 have HA:Hid (∀k w,Cl 40 #[.string s,.int .i64 ((k:Nat):Int)] w (rU w (.int .i64 (chr s k)))):=fun k w=>za0 s k w
 have HH1:Hid (∀w,Cl 96 #[.string s,.int .i64 ((b:Int)+3)] w (rU w (.int .i64 e1))):=fun w=>by
  have h:=zgI s (b+3) (by omega) (by omega) w;rw [<-he1] at h;exact h
 have hbd1:=zjW s 7 (b+3);rw [show hx7 s (b+3) 7=e1 from he1.symm] at hbd1;have t0:(chr s e1==45)=false:=bF hd;have HU:Hid (zbZ s b=zgz s b (b+3) e1 (b+3) e1):=by
  show zbZ s b=_
  rw [ptsR_n (by rw [<-he1];exact hd),<-he1]
 have hnn:0<=zaF s (b+3) 16 (e1 - (b+3)):=zjY s _ 16 (by omega) _ (fun k hk=>zjX s 7 (b+3) _ (by omega) (by rw [show hx7 s (b+3) 7=e1 from he1.symm];omega));have hl1:=hbd1.2.2 hb;have hg1:=hbd1.1;clear hbd1 he1 hd;have HW:Hid (b+3<=e1->e1<=b+3+6->∀w,Cl 64 #[.string (s.extract (b+3) e1),.int .i64 16] w fun e' w'=>e'=.returned (.int .i64 (zaF s (b+3) 16 (e1 - (b+3))))/\w'=w):=fun h1 h2 w=>by
  have hsz:(s.extract (b+3) e1).size=e1 - (b+3):=by rw [ByteArray.size_extract];omega
  have h:=zdm (s.extract (b+3) e1) 16 (by omega) (by omega) w;rw [hsz,zcr (by omega) (e1 - (b+3)) (by omega)] at h;exact h
 have HX:Hid (TX (w.alloc (tkO tk0)) w.heap.size tk0):=TX.new w tk0;have HB:Hid (bW w (w.alloc (tkO tk0))):=zaa w _;by_cases h1:e1=b+3
 ·have HE:Hid (zbZ s b=.inr (b,30)):=by show zbZ s b=_;rw [HU.out];unfold zgz;rw [iP (.inl h1)]
  have t1:((e1:Int)==(b:Int)+3)=true:=by rw [beq_iff_eq];omega
  clear HU HW h1;go_enter Tryz.func71,Tryz.ntmps71;go_wp2_with fail;refine (HH1 _).mono ?_;rintro e w2 ⟨rfl,rfl⟩;go_wp2_with fail;refine (HA _ _).mono ?_;rintro e w2 ⟨rfl,rfl⟩;go_wp2_with fail;refine (HWr _ _ _).mono ?_;rintro e w3 ⟨rfl,b3⟩;have HX3:=hO (HX.below b3);have HB3:Hid (bW w w3):=HB.trans (b3.mono HB.size);clear b3 HWr;obtain ⟨c0,c1,c2,c3,c4,c5,c6,c7,c8⟩:=HX3.cells;obtain ⟨f0,f1',f2',f3,f4,f5,f6,f7,f8⟩:=HX3.fz;go_wp2_with fail;exact zai rfl rfl rfl rfl rfl (zar HX3 tk0) ⟨by rw [HE.out];rfl,zac HB3 (nL _) tk0⟩
 have t1:((e1:Int)==(b:Int)+3)=false:=by rw [beq_eq_false_iff_ne];omega
 by_cases h2:b+3+6<e1
 ·have HE:Hid (zbZ s b=.inr (b,30)):=by show zbZ s b=_;rw [HU.out];unfold zgz;rw [iP (.inr (.inl h2))]
  have t2:(b:Int)+3+6<(e1:Int):=by omega
  clear HU HW;go_enter Tryz.func71,Tryz.ntmps71;go_wp2_with fail;refine (HH1 _).mono ?_;rintro e w2 ⟨rfl,rfl⟩;go_wp2_with fail;refine (HA _ _).mono ?_;rintro e w2 ⟨rfl,rfl⟩;go_wp2_with fail;refine (HWr _ _ _).mono ?_;rintro e w3 ⟨rfl,b3⟩;have HX3:=hO (HX.below b3);have HB3:Hid (bW w w3):=HB.trans (b3.mono HB.size);clear b3 HWr;obtain ⟨c0,c1,c2,c3,c4,c5,c6,c7,c8⟩:=HX3.cells;obtain ⟨f0,f1',f2',f3,f4,f5,f6,f7,f8⟩:=HX3.fz;go_wp2_with fail;exact zai rfl rfl rfl rfl rfl (zar HX3 tk0) ⟨by rw [HE.out];rfl,zac HB3 (nL _) tk0⟩
 have t2:¬(b:Int)+3+6<(e1:Int):=by omega
 by_cases h5:chr s e1=125
 ·have t5:(chr s e1 != 125)=false:=by rw [h5];rfl
  have HV:Hid (zbZ s b=if zaF s (b+3) 16 (e1 - (b+3))<zaF s (b+3) 16 (e1 - (b+3))∨1114111<zaF s (b+3) 16 (e1 - (b+3)) then .inr (b,30) else .inl ⟨5,zaF s (b+3) 16 (e1 - (b+3)),b,e1+1,⟨#[]⟩,zaF s (b+3) 16 (e1 - (b+3)),0,0,0⟩):=by show zbZ s b=_;rw [HU.out];unfold zgz;rw [iN (by omega)]
  have HW1:Hid (∀w,Cl 64 #[.string (s.extract (b+3) e1),.int .i64 16] w fun e' w'=>e'=.returned (.int .i64 (zaF s (b+3) 16 (e1 - (b+3))))/\w'=w):=HW (by omega) (by omega);clear HU HW h5;generalize zaF s (b+3) 16 (e1 - (b+3))=x1 at *;have y1:(0:Int)<=(b:Int)+3:=by omega
  have y2:(b:Int)+3<=(e1:Int):=by omega
  have y3:(e1:Int)<=(s.size:Int):=by omega
  by_cases g2:1114111<x1
  ·have HE:Hid (zbZ s b=.inr (b,30)):=by show zbZ s b=_;rw [HV.out,iP (.inr g2)]
   have v2:decide (1114111<x1)=true:=decide_eq_true g2;clear HV;go_enter Tryz.func71,Tryz.ntmps71;go_wp2_with fail;refine (HH1 _).mono ?_;rintro e w2 ⟨rfl,rfl⟩;go_wp2_with fail;refine (HA _ _).mono ?_;rintro e w2 ⟨rfl,rfl⟩;go_wp2_with fail;refine (HA _ _).mono ?_;rintro e w2 ⟨rfl,rfl⟩;clear HH1 HA;go_wp2_with fail;go_quiet ((go_at_call 64;with_reducible exact Calls.quiet_of (zne (HW1.out _))))
   have HXd:Hid (TX ((w.alloc (.cells #[.int .i64 0,.int .i64 0,.int .i64 0,.int .i64 0,.string ⟨#[]⟩,.int .u64 0,.int .u64 0,.int .u64 0,.int .u64 0] 69)).drewN nq) w.heap.size tk0):=HX.below (below_drewN (bR _ _) nq);have HBd:Hid (bW w ((w.alloc (.cells #[.int .i64 0,.int .i64 0,.int .i64 0,.int .i64 0,.string ⟨#[]⟩,.int .u64 0,.int .u64 0,.int .u64 0,.int .u64 0] 69)).drewN nq)):=below_drewN HB nq;clear HW1;generalize (w.alloc (.cells #[.int .i64 0,.int .i64 0,.int .i64 0,.int .i64 0,.string ⟨#[]⟩,.int .u64 0,.int .u64 0,.int .u64 0,.int .u64 0] 69)).drewN nq=w5 at *;go_wp2_with fail;refine (HWr _ _ _).mono ?_;rintro e w3 ⟨rfl,b3⟩;have HX3:=hO (HXd.below b3);have HB3:Hid (bW w w3):=HBd.trans (b3.mono HBd.size);clear b3 HWr;obtain ⟨c0,c1,c2,c3,c4,c5,c6,c7,c8⟩:=HX3.cells;obtain ⟨f0,f1',f2',f3,f4,f5,f6,f7,f8⟩:=HX3.fz;go_wp2_with fail;exact zai rfl rfl rfl rfl rfl (zar HX3 tk0) ⟨by rw [HE.out];rfl,zac HB3 (nL _) tk0⟩
  ·have HE:Hid (zbZ s b=.inl ⟨5,x1,b,e1+1,⟨#[]⟩,x1,0,0,0⟩):=by show zbZ s b=_;rw [HV.out,iN (by omega)]
   have v2:decide (1114111<x1)=false:=dF g2;have u9:IntKind.u64.wrap x1=x1:=by rw [IntKind.wrap_u64];omega
   clear HV HWr;go_enter Tryz.func71,Tryz.ntmps71;go_wp2_with fail;refine (HH1 _).mono ?_;rintro e w2 ⟨rfl,rfl⟩;go_wp2_with fail;refine (HA _ _).mono ?_;rintro e w2 ⟨rfl,rfl⟩;go_wp2_with fail;refine (HA _ _).mono ?_;rintro e w2 ⟨rfl,rfl⟩;clear HH1 HA;go_wp2_with fail;go_quiet ((go_at_call 64;with_reducible exact Calls.quiet_of (zne (HW1.out _))))
   have HXd:Hid (TX ((w.alloc (.cells #[.int .i64 0,.int .i64 0,.int .i64 0,.int .i64 0,.string ⟨#[]⟩,.int .u64 0,.int .u64 0,.int .u64 0,.int .u64 0] 69)).drewN nq) w.heap.size tk0):=HX.below (below_drewN (bR _ _) nq);have HBd:Hid (bW w ((w.alloc (.cells #[.int .i64 0,.int .i64 0,.int .i64 0,.int .i64 0,.string ⟨#[]⟩,.int .u64 0,.int .u64 0,.int .u64 0,.int .u64 0] 69)).drewN nq)):=below_drewN HB nq;clear HW1;generalize (w.alloc (.cells #[.int .i64 0,.int .i64 0,.int .i64 0,.int .i64 0,.string ⟨#[]⟩,.int .u64 0,.int .u64 0,.int .u64 0,.int .u64 0] 69)).drewN nq=w5 at *;obtain ⟨c0,c1,c2,c3,c4,c5,c6,c7,c8⟩:=HXd.cells;obtain ⟨q0,q1,q2,q3,q4,q5,q6,q7,q8⟩:=HXd.fz;go_wp2_with fail;exact zai (t:=⟨5,x1,b,e1+1,⟨#[]⟩,x1,0,0,0⟩) (p:=0) (e:=0) rfl rfl rfl rfl rfl (zar HXd.out ⟨5,x1,b,e1+1,⟨#[]⟩,x1,0,0,0⟩) ⟨by rw [HE.out];rfl,zac HBd (nL _) ⟨5,x1,b,e1+1,⟨#[]⟩,x1,0,0,0⟩⟩
 ·have t5:(chr s e1 != 125)=true:=by rw [bne,bF h5];rfl
  have HE:Hid (zbZ s b=.inr (b,30)):=by show zbZ s b=_;rw [HU.out];unfold zgz;rw [iP (.inr (.inr (.inr (.inr h5))))]
  clear HU HW h5;go_enter Tryz.func71,Tryz.ntmps71;go_wp2_with fail;refine (HH1 _).mono ?_;rintro e w2 ⟨rfl,rfl⟩;go_wp2_with fail;refine (HA _ _).mono ?_;rintro e w2 ⟨rfl,rfl⟩;go_wp2_with fail;refine (HA _ _).mono ?_;rintro e w2 ⟨rfl,rfl⟩;clear HH1 HA;go_wp2_with fail;refine (HWr _ _ _).mono ?_;rintro e w3 ⟨rfl,b3⟩;have HX3:=hO (HX.below b3);have HB3:Hid (bW w w3):=HB.trans (b3.mono HB.size);clear b3 HWr;obtain ⟨c0,c1,c2,c3,c4,c5,c6,c7,c8⟩:=HX3.cells;obtain ⟨f0,f1',f2',f3,f4,f5,f6,f7,f8⟩:=HX3.fz;go_wp2_with fail;exact zai rfl rfl rfl rfl rfl (zar HX3 tk0) ⟨by rw [HE.out];rfl,zac HB3 (nL _) tk0⟩
theorem ziu (s:ByteArray) (b:Nat) (hs:s.size<=140737488355000) (hb:b+3<=s.size) (w:World):Cl 71 #[.string s,.int .i64 b] w (rB w (zct (zbZ s b))):=by
 by_cases hd:chr s (zbV s (b+3))=45
 ·exact zgY s b _ hs hb rfl hd w
 ·exact zgi s b _ hs hb rfl hd w
theorem zbc (w w1 w2 w3 w4:World) (a b c:BitVec 256) (hb1:Below (w.alloc z4).heap.size (w.alloc z4) w1) (hb2:bW w1 w2) (hb3:bW w2 w3)
  (hb4:Below (((w3.alloc (c4 a)).alloc (c4 b)).alloc (c4 c)).heap.size (((w3.alloc (c4 a)).alloc (c4 b)).alloc (c4 c)) w4) :
  w.heap.size<w3.heap.size/\w3.heap.size+1+1<w4.heap.size/\Hid (bW w w4)/\Hid (Holds w4 w.heap.size 0#256)/\Hid (Holds w4 w3.heap.size a)/\Hid (Holds w4 (w3.heap.size+1) b)/\Hid (Holds w4 (w3.heap.size+1+1) c):=by
 have s1:=hb1.size;have s2:=hb2.size;have s3:=hb3.size;have s4:=hb4.size;rw [znG] at s1;rw [zlz] at s4 hb4;rw [znG] at hb1;have h13:Below (w.heap.size+1) (w.alloc z4) w3:=(hb1.trans (hb2.mono (by omega))).trans (hb3.mono (by omega));have h3:bW w w3:=(zaN w z4).trans (h13.mono (by omega));have h34:bW w3 w4:=(zcf w3 (c4 a) (c4 b) (c4 c)).trans (hb4.mono (by omega));have e0:Holds w3 w.heap.size 0#256:=(Holds.zero w).below h13 (by omega);refine ⟨by omega,by omega,h3.trans (h34.mono (by omega)),e0.below h34 (by omega),?_,?_,?_⟩
 ·exact (((Holds.new w3 a).alloc (c4 b)).alloc (c4 c)).below hb4 (by omega)
 ·have h:=(Holds.new (w3.alloc (c4 a)) b).alloc (c4 c)
  rw [znG] at h;exact h.below hb4 (by omega)
 ·have h:=Holds.new ((w3.alloc (c4 a)).alloc (c4 b)) c
  rw [znH] at h;exact h.below hb4 (by omega)
end Go.Proofs.YtkihfkcmcdiajabGreatDoor
