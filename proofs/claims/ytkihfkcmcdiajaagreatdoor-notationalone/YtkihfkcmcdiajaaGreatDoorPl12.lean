/- DERIVED. Plain mathematics and walks, laid together (12). -/
import Derived.Test.YtkihfkcmcdiajaaGreatDoorRows
import Derived.WalkKit
import Derived.Maps.AppendAt
import Derived.ProofKit
import Derived.Test.YtkihfkcmcdiajaaGreatDoorPl11
set_option maxRecDepth 100000
set_option maxHeartbeats 8000000
namespace Go.Proofs.YtkihfkcmcdiajaaGreatDoor
open Go.RowKit
def zcY (s:ByteArray) (b:Nat):Sum Tk (Nat×Int) :=
 if pfx s b [37,117,123]=true then zb6 s b else if ¬(zaw s b).1=0 then zbS s b
 else if b+1<s.size/\(cls (chr s (b+1)).toNat).2=0 then .inl ⟨28,0,b,(b+2:Nat),s.extract (b+1) (b+2),wd (cls (chr s (b+1)).toNat).1 0,wd (cls (chr s (b+1)).toNat).1 1,wd (cls (chr s (b+1)).toNat).1 2,wd (cls (chr s (b+1)).toNat).1 3⟩ else .inr (b,10)
structure AtP (w W:World) (c:Nat) (y:BitVec 256):Prop where
 x:BX w W tk0 0 0
 h:Holds W c y
theorem AtP.below {w W W':World} {c:Nat} {x:BitVec 256} (h:AtP w W c x) (hb:Below W.heap.size W W'):AtP w W' c x:=⟨h.x.below hb,h.h.below hb h.h.lt⟩
theorem zlO (k:Int) (tx:ByteArray) (W:World):(Instr.field 150 (.agg #[.int .i64 k,.string tx]) 0).run Tryz.prog W=.ok (.int .i64 k) W:=by simp [Instr.field,run_underlying Tryz.underlying150,asAgg,go_sem]
theorem AtP.drew {w W:World} {c:Nat} {x:BitVec 256} (h:AtP w W c x):AtP w W.drew c x:=h.below (bR _ _).drew
theorem zjZ (s:ByteArray) (b:Nat) (hs:s.size<=140737488355000) (hb:b<=s.size) (h:pfx s b [37,117,123]=true) (w:World) (hg:SG w):Calls Tryz.prog 107 #[.string s,.int .i64 b] w (rB w (za0 (zcY s b))):=by
 have HS:Hid (∀w,Cl 77 #[.string s,.int .i64 b,.string ⟨#[37,117,123]⟩] w (rU w (.bool (pfx s b [37,117,123])))):=fun w=>zax s b ⟨#[37,117,123]⟩ hb w
 have HX:Hid (BX w ((w.alloc (tkO tk0)).alloc (fxO 0 0)) tk0 0 0):=BX.new w;have HG:Hid (SG ((w.alloc (tkO tk0)).alloc (fxO 0 0))):=(hg.later (zaa _ _)).later (zaa _ _);have HSA:Hid (∀w,SG w->Cl 135 #[.string s,.int .i64 b] w (rB w (.agg #[.int .i64 (zaw s b).1,.string ⟨(zaw s b).2.toArray⟩]))):=fun w h=>za1 s b hb w h
 clear hg;have HN:Hid (∀w,Cl 134 #[.string s,.int .i64 b] w (rB w (za0 (zb6 s b)))):=fun w=>zfC s b hs (zgP hb h) w
 have HE:Hid (zcY s b=zb6 s b):=by show zcY s b=_;unfold zcY;rw [iP h]
 rw [h] at HS;clear HSA HG h;go_enter Tryz.func107,Tryz.ntmps107;go_wp2_with fail;refine (HS _).mono ?_;rintro e w1 ⟨rfl,rfl⟩;clear HS;go_wp2_with fail;refine (HN _).mono ?_;rintro e w3 ⟨rfl,b3⟩;have HX3:=hO (HX.below b3);clear b3 HX HN;obtain ⟨f0,f1',f2',f3,f4,f5,f6,f7,f8,g0,g1⟩:=HX3.fz;obtain ⟨c0,c1,c2,c3,c4,c5,c6,c7,c8,d0,d1⟩:=HX3.cells;generalize zb6 s b=r at *
 cases r with
 | inl t =>
  unfold za0;go_wp2_with fail;have HP:=HX3.put t 0 0;exact zao rfl rfl rfl rfl HP ⟨by rw [HE.out];rfl,HP.b⟩
 | inr q =>
  unfold za0;go_wp2_with fail;have HP:=HX3.put tk0 q.1 q.2;exact zao rfl rfl rfl rfl HP ⟨by rw [HE.out];rfl,HP.b⟩
theorem zoa (s:ByteArray) (b:Nat) (hs:s.size<=140737488355000) (hb:b<=s.size) (h:pfx s b [37,117,123]=false) (h2:¬(zaw s b).1=0) (w:World) (hg:SG w):Calls Tryz.prog 107 #[.string s,.int .i64 b] w (rB w (za0 (zcY s b))):=by
 have HS:Hid (∀w,Cl 77 #[.string s,.int .i64 b,.string ⟨#[37,117,123]⟩] w (rU w (.bool (pfx s b [37,117,123])))):=fun w=>zax s b ⟨#[37,117,123]⟩ hb w
 have HX:Hid (BX w ((w.alloc (tkO tk0)).alloc (fxO 0 0)) tk0 0 0):=BX.new w;have HG:Hid (SG ((w.alloc (tkO tk0)).alloc (fxO 0 0))):=(hg.later (zaa _ _)).later (zaa _ _);have HSA:Hid (∀w,SG w->Cl 135 #[.string s,.int .i64 b] w (rB w (.agg #[.int .i64 (zaw s b).1,.string ⟨(zaw s b).2.toArray⟩]))):=fun w h=>za1 s b hb w h
 clear hg;have HN:Hid (∀w,SG w->Cl 108 #[.string s,.int .i64 b] w (rB w (za0 (zbS s b)))):=fun w g=>zdX s b hs hb w g
 have HE:Hid (zcY s b=zbS s b):=by show zcY s b=_;unfold zcY;rw [iN (by rw [h];decide),iP h2]
 have v1:((zaw s b).1 != 0)=true:=by rw [bne,bF h2];rfl
 rw [h] at HS;clear h h2;generalize (zaw s b).1=k at *;generalize ByteArray.mk (zaw s b).2.toArray=tx at *;have hfld:=zlO k tx;go_enter Tryz.func107,Tryz.ntmps107;go_wp2_with fail;refine (HS _).mono ?_;rintro e w1 ⟨rfl,rfl⟩;clear HS;go_wp2_with fail;refine (HSA _ HG.out).mono ?_;rintro e w2 ⟨rfl,b2⟩;have HX2:=hO (HX.below b2);have HG2:=hO (HG.later b2);clear b2 HX HG HSA;go_wp2_with fail;refine (HN _ HG2.out).mono ?_;rintro e w3 ⟨rfl,b3⟩;have HX3:=hO (HX2.below b3);clear b3 HX2 HN HG2;obtain ⟨f0,f1',f2',f3,f4,f5,f6,f7,f8,g0,g1⟩:=HX3.fz;obtain ⟨c0,c1,c2,c3,c4,c5,c6,c7,c8,d0,d1⟩:=HX3.cells;generalize zbS s b=r at *
 cases r with
 | inl t =>
  unfold za0;go_wp2_with fail;have HP:=HX3.put t 0 0;exact zao rfl rfl rfl rfl HP ⟨by rw [HE.out];rfl,HP.b⟩
 | inr q =>
  unfold za0;go_wp2_with fail;have HP:=HX3.put tk0 q.1 q.2;exact zao rfl rfl rfl rfl HP ⟨by rw [HE.out];rfl,HP.b⟩
theorem pc_end (s:ByteArray) (b:Nat) (hs:s.size<=140737488355000) (hb:b<=s.size) (h:pfx s b [37,117,123]=false) (h2:(zaw s b).1=0) (h3:¬b+1<s.size) (w:World) (hg:SG w):Calls Tryz.prog 107 #[.string s,.int .i64 b] w (rB w (za0 (zcY s b))):=by
 have HS:Hid (∀w,Cl 77 #[.string s,.int .i64 b,.string ⟨#[37,117,123]⟩] w (rU w (.bool (pfx s b [37,117,123])))):=fun w=>zax s b ⟨#[37,117,123]⟩ hb w
 have HX:Hid (BX w ((w.alloc (tkO tk0)).alloc (fxO 0 0)) tk0 0 0):=BX.new w;have HG:Hid (SG ((w.alloc (tkO tk0)).alloc (fxO 0 0))):=(hg.later (zaa _ _)).later (zaa _ _);have HSA:Hid (∀w,SG w->Cl 135 #[.string s,.int .i64 b] w (rB w (.agg #[.int .i64 (zaw s b).1,.string ⟨(zaw s b).2.toArray⟩]))):=fun w h=>za1 s b hb w h
 clear hg;have HF:Hid (∀i e w,Cl 128 #[.int .i64 i,.int .i64 e] w fun e' w'=>e'=.returned (zaQ tk0 i e)/\Below w.heap.size w w'):=fun i e w=>zaJ i e w
 have HE:Hid (zcY s b=.inr (b,10)):=by show zcY s b=_;unfold zcY;rw [iN (by rw [h];decide),iN (fun q=>q h2),iN (fun q=>h3 q.1)]
 have z1:¬(b:Int)+1<(s.size:Int):=by omega
 have v1:((zaw s b).1 != 0)=false:=by rw [h2];rfl
 rw [h] at HS;clear h h2;generalize (zaw s b).1=k at *;generalize ByteArray.mk (zaw s b).2.toArray=tx at *;have hfld:=zlO k tx;go_enter Tryz.func107,Tryz.ntmps107;go_wp2_with fail;refine (HS _).mono ?_;rintro e w1 ⟨rfl,rfl⟩;clear HS;go_wp2_with fail;refine (HSA _ HG.out).mono ?_;rintro e w2 ⟨rfl,b2⟩;have HX2:=hO (HX.below b2);have HG2:=hO (HG.later b2);clear b2 HX HG HSA;go_wp2_with fail;refine (HF _ _ _).mono ?_;rintro e w3 ⟨rfl,b3⟩;have HX3:=hO (HX2.below b3);clear b3 HX2 HF HG2;obtain ⟨f0,f1',f2',f3,f4,f5,f6,f7,f8,g0,g1⟩:=HX3.fz;obtain ⟨c0,c1,c2,c3,c4,c5,c6,c7,c8,d0,d1⟩:=HX3.cells;unfold zaQ;go_wp2_with fail;have HP:=HX3.put tk0 b 10;exact zao rfl rfl rfl rfl HP ⟨by rw [HE.out];rfl,HP.b⟩
theorem zob (s:ByteArray) (b:Nat) (hs:s.size<=140737488355000) (hb:b<=s.size) (h:pfx s b [37,117,123]=false) (h2:(zaw s b).1=0) (h3:b+1<s.size) (h4:¬(cls (chr s (b+1)).toNat).2=0) (w:World) (hg:SG w):Calls Tryz.prog 107 #[.string s,.int .i64 b] w (rB w (za0 (zcY s b))):=by
 have HS:Hid (∀w,Cl 77 #[.string s,.int .i64 b,.string ⟨#[37,117,123]⟩] w (rU w (.bool (pfx s b [37,117,123])))):=fun w=>zax s b ⟨#[37,117,123]⟩ hb w
 have HX:Hid (BX w ((w.alloc (tkO tk0)).alloc (fxO 0 0)) tk0 0 0):=BX.new w;have HG:Hid (SG ((w.alloc (tkO tk0)).alloc (fxO 0 0))):=(hg.later (zaa _ _)).later (zaa _ _);have HSA:Hid (∀w,SG w->Cl 135 #[.string s,.int .i64 b] w (rB w (.agg #[.int .i64 (zaw s b).1,.string ⟨(zaw s b).2.toArray⟩]))):=fun w h=>za1 s b hb w h
 clear hg;have HF:Hid (∀i e w,Cl 128 #[.int .i64 i,.int .i64 e] w fun e' w'=>e'=.returned (zaQ tk0 i e)/\Below w.heap.size w w'):=fun i e w=>zaJ i e w
 have HE:Hid (zcY s b=.inr (b,10)):=by show zcY s b=_;unfold zcY;rw [iN (by rw [h];decide),iN (fun q=>q h2),iN (fun q=>h4 q.2)]
 have hc:=zal h3;obtain ⟨c,hcc⟩:∃c:Nat,c=(chr s (b+1)).toNat:=⟨_,rfl⟩;have hcn:(s[b+1].toNat:Int)=c:=by rw [hcc,hc];omega
 have hclt:c<256:=by have:=zbf s (b+1);omega
 have HC:Hid (∀w,Cl 136 #[.int .u8 (s[b+1].toNat:Int)] w (rB w (.tuple #[sv (cls c).1,.int .i64 (cls c).2]))):=fun w=>by rw [hcn];exact zeB c hclt w
 obtain ⟨j1,hj1⟩:∃j,j=b+1:=⟨_,rfl⟩;obtain ⟨j2,hj2⟩:∃j,j=b+2:=⟨_,rfl⟩;have u1:IntKind.i64.wrap ((b:Int)+1)=(j1:Int):=by rw [hj1,wI];omega
 have u2:IntKind.i64.wrap ((b:Int)+2)=(j2:Int):=by rw [hj2,wI];omega
 have y0:(0:Int)<=(j1:Int):=by omega
 have y1:(j1:Int)<=(j2:Int):=by omega
 have y2:(j2:Int)<=(s.size:Int):=by omega
 have y3:(j1:Int)<(s.size:Int):=by omega
 have h3':j1<s.size:=by omega
 have HC2:Hid (∀w,Cl 136 #[.int .u8 (s[j1].toNat:Int)] w (rB w (.tuple #[sv (cls c).1,.int .i64 (cls c).2]))):=by subst hj1;exact HC
 clear HC hcn hc hclt;rw [<-hcc] at h4;have v4:((cls c).2==0)=false:=bF h4;clear hcc h4 hj1 hj2;generalize (cls c).2=q at *;generalize (cls c).1=x at *;have v1:((zaw s b).1 != 0)=false:=by rw [h2];rfl
 rw [h] at HS;clear h h2;generalize (zaw s b).1=k at *;generalize ByteArray.mk (zaw s b).2.toArray=tx at *;have hfld:=zlO k tx;go_enter Tryz.func107,Tryz.ntmps107;go_wp2_with fail;refine (HS _).mono ?_;rintro e w1 ⟨rfl,rfl⟩;clear HS;go_wp2_with fail;refine (HSA _ HG.out).mono ?_;rintro e w2 ⟨rfl,b2⟩;have HX2:=hO (HX.below b2);have HG2:=hO (HG.later b2);clear b2 HX HG HSA;go_wp2_with fail;refine (HC2 _).mono ?_;rintro e w3 ⟨rfl,b3⟩;have HX3:Hid (BX w (w3.alloc (svO x)) tk0 0 0):=(HX2.below b3).below (zaa _ _);clear b3 HX2 HC2 HG2;go_wp2_with fail;refine (HF _ _ _).mono ?_;rintro e w4 ⟨rfl,b4⟩;have HX4:=hO (HX3.below b4);clear b4 HX3 HF;obtain ⟨f0,f1',f2',f3,f4,f5,f6,f7,f8,g0,g1⟩:=HX4.fz;obtain ⟨c0,c1,c2,c3,c4,c5,c6,c7,c8,d0,d1⟩:=HX4.cells;unfold zaQ;go_wp2_with fail;have HP:=HX4.put tk0 b 10;exact zao rfl rfl rfl rfl HP ⟨by rw [HE.out];rfl,HP.b⟩
theorem zlP (s:ByteArray) (b:Nat) (hs:s.size<=140737488355000) (hb:b<=s.size) (h:pfx s b [37,117,123]=false) (h2:(zaw s b).1=0) (h3:b+1<s.size) (h4:(cls (chr s (b+1)).toNat).2=0) (w:World) (hg:SG w):Calls Tryz.prog 107 #[.string s,.int .i64 b] w (rB w (za0 (zcY s b))):=by
 have HS:Hid (∀w,Cl 77 #[.string s,.int .i64 b,.string ⟨#[37,117,123]⟩] w (rU w (.bool (pfx s b [37,117,123])))):=fun w=>zax s b ⟨#[37,117,123]⟩ hb w
 have HX:Hid (BX w ((w.alloc (tkO tk0)).alloc (fxO 0 0)) tk0 0 0):=BX.new w;have HG:Hid (SG ((w.alloc (tkO tk0)).alloc (fxO 0 0))):=(hg.later (zaa _ _)).later (zaa _ _);have HSA:Hid (∀w,SG w->Cl 135 #[.string s,.int .i64 b] w (rB w (.agg #[.int .i64 (zaw s b).1,.string ⟨(zaw s b).2.toArray⟩]))):=fun w h=>za1 s b hb w h
 clear hg;have HE:Hid (zcY s b=.inl ⟨28,0,b,(b+2:Nat),s.extract (b+1) (b+2),wd (cls (chr s (b+1)).toNat).1 0,wd (cls (chr s (b+1)).toNat).1 1,wd (cls (chr s (b+1)).toNat).1 2,wd (cls (chr s (b+1)).toNat).1 3⟩):=by show zcY s b=_;unfold zcY;rw [iN (by rw [h];decide),iN (fun q=>q h2),iP ⟨h3,h4⟩]
 have hc:=zal h3;obtain ⟨c,hcc⟩:∃c:Nat,c=(chr s (b+1)).toNat:=⟨_,rfl⟩;have hcn:(s[b+1].toNat:Int)=c:=by rw [hcc,hc];omega
 have hclt:c<256:=by have:=zbf s (b+1);omega
 have HC:Hid (∀w,Cl 136 #[.int .u8 (s[b+1].toNat:Int)] w (rB w (.tuple #[sv (cls c).1,.int .i64 (cls c).2]))):=fun w=>by rw [hcn];exact zeB c hclt w
 obtain ⟨j1,hj1⟩:∃j,j=b+1:=⟨_,rfl⟩;obtain ⟨j2,hj2⟩:∃j,j=b+2:=⟨_,rfl⟩;have u1:IntKind.i64.wrap ((b:Int)+1)=(j1:Int):=by rw [hj1,wI];omega
 have u2:IntKind.i64.wrap ((b:Int)+2)=(j2:Int):=by rw [hj2,wI];omega
 have y0:(0:Int)<=(j1:Int):=by omega
 have y1:(j1:Int)<=(j2:Int):=by omega
 have y2:(j2:Int)<=(s.size:Int):=by omega
 have y3:(j1:Int)<(s.size:Int):=by omega
 have h3':j1<s.size:=by omega
 have HC2:Hid (∀w,Cl 136 #[.int .u8 (s[j1].toNat:Int)] w (rB w (.tuple #[sv (cls c).1,.int .i64 (cls c).2]))):=by subst hj1;exact HC
 clear HC hcn hc hclt;rw [<-hcc] at h4 HE;rw [h4] at HC2;rw [<-hj1,<-hj2] at HE;clear hcc h4 hj1 hj2;generalize (cls c).1=x at *;have v1:((zaw s b).1 != 0)=false:=by rw [h2];rfl
 rw [h] at HS;clear h h2;generalize (zaw s b).1=k at *;generalize ByteArray.mk (zaw s b).2.toArray=tx at *;have HCo:Hid (∀w,Cl 129 #[.string (s.extract j1 j2)] w (rB w (.string (s.extract j1 j2)))):=fun w=>ze9 _ w
 have hfld:=zlO k tx;go_enter Tryz.func107,Tryz.ntmps107;go_wp2_with fail;refine (HS _).mono ?_;rintro e w1 ⟨rfl,rfl⟩;clear HS;go_wp2_with fail;refine (HSA _ HG.out).mono ?_;rintro e w2 ⟨rfl,b2⟩;have HX2:=hO (HX.below b2);have HG2:=hO (HG.later b2);clear b2 HX HG HSA;go_wp2_with fail;refine (HC2 _).mono ?_;rintro e w3 ⟨rfl,b3⟩;have HP3:Hid (AtP w (w3.alloc (svO x)) w3.heap.size x):=⟨(HX2.below b3).below (zaa _ _),Holds.new w3 x⟩;have hsz:=(HX2.below b3).size;have ne1:¬w3.heap.size=w.heap.size:=by omega
 have ne2:¬w.heap.size=w3.heap.size:=by omega
 have ne3:¬w3.heap.size=w.heap.size+1:=by omega
 have ne4:¬w.heap.size+1=w3.heap.size:=by omega
 clear b3 HX2 HC2 HG2 hsz;go_wp2_with fail;generalize w3.alloc (svO x)=w4 at *;obtain ⟨f0,f1',f2',f3,f4,f5,f6,f7,f8,g0,g1⟩:=HP3.x.fz;obtain ⟨c0,c1,c2,c3,c4,c5,c6,c7,c8,d0,d1⟩:=HP3.x.cells;obtain ⟨_,e0,e1,e2,e3,_,_,_,_⟩:=HP3.h;go_region_with (go_at_call 129;refine (HCo.out _).mono ?_;rintro e w5 ⟨rfl,hb5⟩;have hA2:=(show AtP w w5 w3.heap.size x from (by first | exact HP3.out.below hb5 | exact HP3.out.drew.below hb5));replace HP3:=(show Hid _ from hA2);clear hA2 hb5 f0 f1' f2' f3 f4 f5 f6 f7 f8 g0 g1 c0 c1 c2 c3 c4 c5 c6 c7 c8 d0 d1 e0 e1 e2 e3;obtain ⟨f0,f1',f2',f3,f4,f5,f6,f7,f8,g0,g1⟩:=HP3.out.x.fz;obtain ⟨c0,c1,c2,c3,c4,c5,c6,c7,c8,d0,d1⟩:=HP3.out.x.cells;obtain ⟨_,e0,e1,e2,e3,_,_,_,_⟩:=HP3.out.h)
 all_goals
  go_wp2_with fail;have HP:=HP3.x.put ⟨28,0,b,j2,s.extract j1 j2,wd x 0,wd x 1,wd x 2,wd x 3⟩ 0 0;exact zao rfl rfl rfl rfl HP ⟨by rw [HE.out];rfl,HP.b⟩
theorem zeD (s:ByteArray) (b:Nat) (hs:s.size<=140737488355000) (hb:b<=s.size) (w:World) (hg:SG w):Calls Tryz.prog 107 #[.string s,.int .i64 b] w (rB w (za0 (zcY s b))):=by
 cases h:pfx s b [37,117,123] with
 | true=>exact zjZ s b hs hb h w hg
 | false =>
  by_cases h2:(zaw s b).1=0
  ·by_cases h3:b+1<s.size
   ·by_cases h4:(cls (chr s (b+1)).toNat).2=0
    ·exact zlP s b hs hb h h2 h3 h4 w hg
    ·exact zob s b hs hb h h2 h3 h4 w hg
   ·exact pc_end s b hs hb h h2 h3 w hg
  ·exact zoa s b hs hb h h2 w hg
theorem zj0 (s:ByteArray) (i:Nat):Q.chr s i=chr s i:=rfl
def zk2 (s:ByteArray) (b:Nat):Q.Rd (List Int×Nat)->Sum Tk (Nat×Int)
 | .inr (a,c)=>if c=21 then .inr (a.toNat,51) else if c=22/\a<(s.size:Int) then .inr (a.toNat,50) else .inr (b,52)
 | .inl (l,e)=>if 255<l.length then .inr (b,2) else .inl ⟨2,0,b,e,zat l,0,0,0,0⟩
theorem zlQ (s:ByteArray) (i:Nat):Q.zaI s i=(zcy s i).map fun p=>((p.1:Int),p.2):=by
 unfold Q.zaI zcy Q.zbe;rw [show Q.chr=chr from rfl,show Q.zaG=zaG from rfl];have hb:=zbf s (i+1);by_cases a1:chr s (i+1)=110
 ·rw [iP a1,iP a1];rfl
 by_cases a2:chr s (i+1)=114
 ·rw [iN a1,iN a1,iP a2,iP a2];rfl
 by_cases a3:chr s (i+1)=116
 ·rw [iN a1,iN a1,iN a2,iN a2,iP a3,iP a3];rfl
 rw [iN a1,iN a1,iN a2,iN a2,iN a3,iN a3];by_cases a4:chr s (i+1)=92∨chr s (i+1)=39∨chr s (i+1)=34
 ·rw [iP a4,iP a4,Option.map_some,Int.toNat_of_nonneg (by omega)]
 rw [iN a4,iN a4];by_cases h:chr s (i+1)=120
 ·have h1:=zbg (chr s (i+2))
  rw [iP h];by_cases q:0<=zaG (chr s (i+2))/\0<=zaG (chr s (i+3))
  ·rw [iP q,iP ⟨h,q⟩,Option.map_some,Int.toNat_of_nonneg (by omega)]
  ·rw [iN q,iN (fun x=>q x.2)];rfl
 ·rw [iN h,iN (fun x=>h x.1)];rfl
theorem zj1 {s:ByteArray} {i:Nat} {c n:Nat} (h:zcy s i=some (c,n)):i<n/\n<=i+4:=by
 unfold zcy at h
 split at h
 ·cases h;omega
 split at h
 ·cases h;omega
 split at h
 ·cases h;omega
 split at h
 ·cases h;omega
 split at h
 ·cases h;omega
 ·cases h
theorem zj2 (s:ByteArray) (q:Int) (b:Nat) (hq:q=39∨q=34):∀(f i:Nat) (l:List Int),s.size<f+i->zk2 s b (Q.zbd s q f i l)=zby s q b f l i:=by
 intro f
 induction f with
 | zero =>
  intro i l hf;rw [Q.zbd,zby];rw [zk2,iN (by decide),iN (by omega)]
 | succ f ih =>
  intro i l hf;rw [Q.zbd,zby,zj0];by_cases h1:i<s.size
  ·have hb:=zal h1
   have hb2:¬chr s i<0:=by rw [hb];omega
   rw [iN hb2];by_cases h2:chr s i=q
   ·rw [iP h2,iP h2];rfl
   rw [iN h2,iN h2,iN (by omega)];by_cases h92:chr s i=92
   ·have e1:¬(chr s i<32∨chr s i=127):=by omega
    rw [iN e1,iN (fun x=>x h92)];unfold Q.za8;rw [zj0,iP h92,zlQ]
    cases he:zcy s i with
    | none =>
     show zk2 s b (.inr ((i:Int),21))=_
     rw [zk2,iP rfl];rfl
    | some p =>
     have h3:=zj1 (c:=p.1) (n:=p.2) he;exact ih _ _ (by omega)
   ·unfold Q.za8
    rw [zj0,iN h92];by_cases h32:chr s i<32∨chr s i=127
    ·rw [iP h32,iP h32]
     rw [zk2,iN (by decide),iP ⟨rfl,by omega⟩];rfl
    ·rw [iN h32,iN h32,iP h92]
     exact ih _ _ (by omega)
  ·rw [zau h1,iN (by omega),iP (by omega),iP (by omega)]
   rw [zk2,iN (by decide),iN (by omega)]
theorem zij {s:ByteArray} {m:Int} {f i:Nat} {l:List Int} {a c:Int} (h:Q.zbd s m f i l=.inr (a,c)):0<=a/\(c=21∨c=22):=by
 induction f generalizing i l with
 | zero=>rw [Q.zbd] at h;cases h;exact ⟨by omega,.inr rfl⟩
 | succ f ih =>
  rw [Q.zbd] at h
  split at h
  ·cases h
  split at h
  ·cases h;exact ⟨by omega,.inr rfl⟩
  cases hb:Q.za8 s i with
  | inl p=>rw [hb] at h;exact ih h
  | inr q =>
   obtain ⟨a2,c2⟩:=q;rw [hb] at h
   cases h
   unfold Q.za8 at hb
   split at hb
   ·cases he:Q.zaI s i with
    | none=>rw [he] at hb;cases hb;exact ⟨by omega,.inl rfl⟩
    | some p=>rw [he] at hb;cases hb
   ·split at hb
    ·cases hb;exact ⟨by omega,.inr rfl⟩
    ·cases hb
theorem zj3 {s:ByteArray} {b:Nat} {a c:Int} (hs:s.size<=65536) (hb:b<=s.size) (hq:chr s b=39∨chr s b=34) (h:Q.zcc s b=.inr (a,c)):0<=a/\(c=21∨c=22):=by
 unfold Q.zcc at h;rw [iN (by omega),iN (by omega),Int.toNat_natCast,zj0,iP hq] at h;exact zij h
theorem zlR (s:ByteArray) (b:Nat) (hs:s.size<=65536) (hb:b<=s.size) (hq:chr s b=39∨chr s b=34):zk2 s b (Q.zcc s b)=zbY s b:=by
 unfold Q.zcc zbY;rw [iN (by omega),iN (by omega),Int.toNat_natCast,zj0,iP hq];exact zj2 s _ b hq _ _ _ (by omega)
end Go.Proofs.YtkihfkcmcdiajaaGreatDoor
namespace Go.Proofs.YtkihfkcmcdiajaaGreatDoor.Q
open Go.RowKit
def cpE (s:ByteArray) (i:Int):Int:=if 65536<s.size then 2 else if i<0∨(s.size:Int)<i then 1 else 0
theorem zeP (s:ByteArray) (i:Int) (w:World) :
  Calls Tryz.prog 145 #[.string s,.int .i64 i] w (rU w (.int .i64 (cpE s i))):=by
 by_cases h:65536<s.size
 ·have HE:Hid (cpE s i=2):=(by show cpE s i=2;unfold cpE;rw [iP h])
  have h1:(65536:Int)<(s.size:Int):=by omega
  go_enter Tryz.func145,Tryz.ntmps145;go_wp2
  go_ret
  exact ⟨by rw [HE.out];rfl,rfl⟩
 ·have h1:¬(65536:Int)<(s.size:Int):=by omega
  by_cases h0:i<0
  ·have HE:Hid (cpE s i=1):=(by show cpE s i=1;unfold cpE;rw [iN h,iP (.inl h0)])
   go_enter Tryz.func145,Tryz.ntmps145;go_wp2
   go_ret
   exact ⟨by rw [HE.out];rfl,rfl⟩
  ·by_cases h2:(s.size:Int)<i
   ·have HE:Hid (cpE s i=1):=(by show cpE s i=1;unfold cpE;rw [iN h,iP (.inr h2)])
    go_enter Tryz.func145,Tryz.ntmps145;go_wp2
    go_ret
    exact ⟨by rw [HE.out];rfl,rfl⟩
   ·have HE:Hid (cpE s i=0):=(by show cpE s i=0;unfold cpE;rw [iN h,iN (by omega)])
    go_enter Tryz.func145,Tryz.ntmps145;go_wp2
    go_ret
    exact ⟨by rw [HE.out];rfl,rfl⟩
def mkB (c:Int):Bool:=c==39||c==34
theorem zik (c:Int) (w:World) :
  Calls Tryz.prog 146 #[.int .u8 c] w (rU w (.bool (mkB c))):=by
 by_cases h:c=39
 ·have HE:Hid (mkB c=true):=(by show mkB c=true;unfold mkB;rw [beq_iff_eq.2 h];rfl)
  have e1:(c==39)=true:=beq_iff_eq.2 h;clear h;go_enter Tryz.func146,Tryz.ntmps146;go_wp2
  go_ret
  exact ⟨by rw [HE.out];rfl,rfl⟩
 ·have e1:(c==39)=false:=bF h
  have HE:Hid (mkB c=(c==34)):=(by show mkB c=(c==34);unfold mkB;rw [e1];rfl);clear h;go_enter Tryz.func146,Tryz.ntmps146;go_wp2
  go_ret
  exact ⟨by rw [HE.out];rfl,rfl⟩
abbrev digs:ByteArray:=⟨#[48,49,50,51,52,53,54,55,56,57,97,98,99,100,101,102]⟩
theorem zgz (c:UInt8):Lib.indexByte digs.data.toList c=zaG (c.toNat:Int):=by
 have key:∀n,n<256->Lib.indexByte digs.data.toList (UInt8.ofNat n)=zaG (n:Int):=by decide +kernel
 have:=key c.toNat c.toNat_lt;rw [UInt8.ofNat_toNat] at this;exact this
theorem zch (c:UInt8) (w:World):Calls Tryz.prog 144 #[.string digs,.int .u8 (c.toNat:Int)] w (rU w (.int .i64 (zaG (c.toNat:Int)))):=by
 refine (Tryz.strings_IndexByte digs (c.toNat:Int) w).mono ?_;rintro e w' ⟨rfl,rfl⟩;refine ⟨?_,rfl⟩;rw [<-zgz];simp
theorem zeE {b b':Int} {n:Nat} {n':Int} (hb:b'=b) (hn:n'=n):Ending.returned (.tuple #[.int .u8 b',.int .i64 n',.int .i64 0])=.returned (esV (some (b,n))):=by rw [hb,hn];rfl
theorem ret_by {b b':Int} {n:Nat} {n':Int} (hb:b'=b) (hn:n'=n):Ending.returned (.tuple #[.int .u8 b',.int .i64 n',.int .i64 0])=.returned (byV (.inl (b,n))):=by rw [hb,hn];rfl
theorem zdc (s:ByteArray) (i:Nat) (hi:i+1<s.size) (hs:s.size<=140737488355328) (w:World) :
  Calls Tryz.prog 188 #[.string s,.int .i64 i] w (rU w (esV (zbe s i))):=by
 by_cases h:i+3<s.size
 ·have h2:i+2<s.size:=by omega
  have hb1:=zbg (s[i+2].toNat:Int);have hb2:=zbg (s[i+3].toNat:Int);have HE:Hid (zbe s i=if 0<=zaG (s[i+2].toNat:Int)/\0<=zaG (s[i+3].toNat:Int) then some (16 * zaG (s[i+2].toNat:Int)+zaG (s[i+3].toNat:Int),i+4) else none):=(by show zbe s i=_;unfold zbe;rw [zal h,zal h2]);have HI:Hid (∀w,Cl 144 #[.string digs,.int .u8 (s[i+2].toNat:Int)] w (rU w (.int .i64 (zaG (s[i+2].toNat:Int))))):=fun w=>zch _ w
  have HJ:Hid (∀w,Cl 144 #[.string digs,.int .u8 (s[i+3].toNat:Int)] w (rU w (.int .i64 (zaG (s[i+3].toNat:Int))))):=fun w=>zch _ w
  go_enter Tryz.func188,Tryz.ntmps188;go_wp2_with fail;refine (HI _).mono ?_;rintro e w' ⟨rfl,rfl⟩;clear HI;go_wp2_with fail;refine (HJ _).mono ?_;rintro e w' ⟨rfl,rfl⟩;clear HJ;generalize zaG (s[i+2].toNat:Int)=a at *;generalize zaG (s[i+3].toNat:Int)=b at *;by_cases ha:0<=a
  ·by_cases hb:0<=b
   ·have hw8:IntKind.u8.wrap (16 * a+b)=16 * a+b:=by rw [IntKind.wrap_u8'];omega
    go_wp2
    go_ret3
    exact ⟨by rw [HE.out,iP ⟨ha,hb⟩];exact zeE (by omega) (by omega),rfl⟩
   ·go_wp2
    go_ret3
    exact ⟨by rw [HE.out,iN (fun h=>by omega)];rfl,rfl⟩
  ·go_wp2
   go_ret3
   exact ⟨by rw [HE.out,iN (fun h=>by omega)];rfl,rfl⟩
 ·have h1:¬(i:Int)+3<(s.size:Int):=by omega
  have HE:Hid (zbe s i=none):=(by show zbe s i=none;unfold zbe;rw [zau h];rw [iN];rintro ⟨_,h2⟩;simp [zaG] at h2);go_enter Tryz.func188,Tryz.ntmps188;go_wp2
  go_ret3
  exact ⟨by rw [HE.out];rfl,rfl⟩
theorem zdd (s:ByteArray) (i:Nat) (hi:i<s.size) (hs:s.size<=140737488355328) (w:World) :
  Calls Tryz.prog 177 #[.string s,.int .i64 i] w (rU w (esV (zaI s i))):=by
 by_cases h:i+1<s.size
 ·have HX:Hid (∀w,Cl 188 #[.string s,.int .i64 i] w (rU w (esV (zbe s i)))):=fun w=>zdc s i h hs w
  have hb:(0:Int)<=(s[i+1].toNat:Int)/\(s[i+1].toNat:Int)<=255:=by have:=s[i+1].toNat_lt;omega
  have HE:Hid (zaI s i=if (s[i+1].toNat:Int)=110 then some (10,i+2) else if (s[i+1].toNat:Int)=114 then some (13,i+2) else if (s[i+1].toNat:Int)=116 then some (9,i+2) else
 if (s[i+1].toNat:Int)=92∨(s[i+1].toNat:Int)=39∨(s[i+1].toNat:Int)=34 then some ((s[i+1].toNat:Int),i+2) else if (s[i+1].toNat:Int)=120 then zbe s i else none):=(by show zaI s i=_;unfold zaI;rw [zal h])
  by_cases h110:(s[i+1].toNat:Int)=110
  ·have HF:Hid (zaI s i=some (10,i+2)):=(by show zaI s i=_;rw [HE.out];rw [iP h110])
   clear HE HX;have e110:((s[i+1].toNat:Int)==110)=true:=beq_iff_eq.2 h110;clear h110;go_enter Tryz.func177,Tryz.ntmps177;go_wp2
   go_ret3
   exact ⟨by rw [HF.out];exact zeE rfl (by omega),rfl⟩
  have e110:((s[i+1].toNat:Int)==110)=false:=bF h110;by_cases h114:(s[i+1].toNat:Int)=114
  ·have HF:Hid (zaI s i=some (13,i+2)):=(by show zaI s i=_;rw [HE.out];rw [iN h110,iP h114])
   clear HE HX;have e114:((s[i+1].toNat:Int)==114)=true:=beq_iff_eq.2 h114;clear h114;go_enter Tryz.func177,Tryz.ntmps177;go_wp2
   go_ret3
   exact ⟨by rw [HF.out];exact zeE rfl (by omega),rfl⟩
  have e114:((s[i+1].toNat:Int)==114)=false:=bF h114;by_cases h116:(s[i+1].toNat:Int)=116
  ·have HF:Hid (zaI s i=some (9,i+2)):=(by show zaI s i=_;rw [HE.out];rw [iN h110,iN h114,iP h116])
   clear HE HX;have e116:((s[i+1].toNat:Int)==116)=true:=beq_iff_eq.2 h116;clear h116;go_enter Tryz.func177,Tryz.ntmps177;go_wp2
   go_ret3
   exact ⟨by rw [HF.out];exact zeE rfl (by omega),rfl⟩
  have e116:((s[i+1].toNat:Int)==116)=false:=bF h116;by_cases hg:(s[i+1].toNat:Int)=92∨(s[i+1].toNat:Int)=39∨(s[i+1].toNat:Int)=34
  ·have HF:Hid (zaI s i=some ((s[i+1].toNat:Int),i+2)):=(by show zaI s i=_;rw [HE.out];rw [iN h110,iN h114,iN h116,iP hg])
   clear HE HX h110 h114 h116
   rcases hg with hg | hg | hg
   ·have e92:((s[i+1].toNat:Int)==92)=true:=beq_iff_eq.2 hg
    clear hg;go_enter Tryz.func177,Tryz.ntmps177;go_wp2
    go_ret3
    exact ⟨by rw [HF.out];exact zeE rfl (by omega),rfl⟩
   ·have e92:((s[i+1].toNat:Int)==92)=false:=bF (by omega)
    have e39:((s[i+1].toNat:Int)==39)=true:=beq_iff_eq.2 hg;clear hg;go_enter Tryz.func177,Tryz.ntmps177;go_wp2
    go_ret3
    exact ⟨by rw [HF.out];exact zeE rfl (by omega),rfl⟩
   ·have e92:((s[i+1].toNat:Int)==92)=false:=bF (by omega)
    have e39:((s[i+1].toNat:Int)==39)=false:=bF (by omega);have e34:((s[i+1].toNat:Int)==34)=true:=beq_iff_eq.2 hg;clear hg;go_enter Tryz.func177,Tryz.ntmps177;go_wp2
    go_ret3
    exact ⟨by rw [HF.out];exact zeE rfl (by omega),rfl⟩
  have e92:((s[i+1].toNat:Int)==92)=false:=bF (by omega);have e39:((s[i+1].toNat:Int)==39)=false:=bF (by omega);have e34:((s[i+1].toNat:Int)==34)=false:=bF (by omega);by_cases h120:(s[i+1].toNat:Int)=120
  ·have HF:Hid (zaI s i=zbe s i):=(by show zaI s i=_;rw [HE.out];rw [iN h110,iN h114,iN h116,iN hg,iP h120])
   have e120:((s[i+1].toNat:Int)==120)=true:=beq_iff_eq.2 h120;clear HE h110 h114 h116 h120 hg;go_enter Tryz.func177,Tryz.ntmps177;go_wp2_with fail;refine (HX _).mono ?_;rintro e w' ⟨rfl,rfl⟩
   cases hq:zbe s i with
   | none =>
    rw [hq] at HF;clear HX hq;dsimp only [esV];go_wp2
    go_ret3
    exact ⟨by rw [HF.out];rfl,rfl⟩
   | some q =>
    obtain ⟨qb,qn⟩:=q;rw [hq] at HF;clear HX hq;dsimp only [esV];go_wp2
    go_ret3
    exact ⟨by rw [HF.out];rfl,rfl⟩
  have e120:((s[i+1].toNat:Int)==120)=false:=bF h120;have HF:Hid (zaI s i=none):=(by show zaI s i=_;rw [HE.out];rw [iN h110,iN h114,iN h116,iN hg,iN h120]);clear HE HX h110 h114 h116 h120 hg;go_enter Tryz.func177,Tryz.ntmps177;go_wp2
  go_ret3
  exact ⟨by rw [HF.out];rfl,rfl⟩
 ·have HE:Hid (zaI s i=none):=(by show zaI s i=none;unfold zaI;rw [zau h];rfl)
  have h1:¬(i:Int)+1<(s.size:Int):=by omega
  go_enter Tryz.func177,Tryz.ntmps177;go_wp2
  go_ret3
  exact ⟨by rw [HE.out];rfl,rfl⟩
theorem zge (s:ByteArray) (i:Nat) (h:i<s.size) (hs:s.size<=140737488355328) (w:World) :
  Calls Tryz.prog 159 #[.string s,.int .i64 i] w (rU w (byV (za8 s i))):=by
 have HX:Hid (∀w,Cl 177 #[.string s,.int .i64 i] w (rU w (esV (zaI s i)))):=fun w=>zdd s i h hs w
 have hb:(0:Int)<=(s[i].toNat:Int)/\(s[i].toNat:Int)<=255:=by have:=s[i].toNat_lt;omega
 have HE:Hid (za8 s i=if (s[i].toNat:Int)=92 then (match zaI s i with | none=>.inr (i,21) | some p=>.inl p) else if (s[i].toNat:Int)<32∨(s[i].toNat:Int)=127 then .inr (i,22) else .inl ((s[i].toNat:Int),i+1)):=(by show za8 s i=_;unfold za8;rw [zal h];rfl);by_cases h92:(s[i].toNat:Int)=92
 ·have e92:((s[i].toNat:Int)==92)=true:=beq_iff_eq.2 h92
  have HF:Hid (za8 s i=(match zaI s i with | none=>.inr (i,21) | some p=>.inl p)):=(by show za8 s i=_;rw [HE.out,iP h92]);clear HE h92;go_enter Tryz.func159,Tryz.ntmps159;go_wp2_with fail;refine (HX _).mono ?_;rintro e w' ⟨rfl,rfl⟩
  cases hq:zaI s i with
  | none =>
   rw [hq] at HF;clear HX hq;dsimp only [esV];go_wp2
   go_ret3
   exact ⟨by rw [HF.out];rfl,rfl⟩
  | some q =>
   obtain ⟨qb,qn⟩:=q;rw [hq] at HF;clear HX hq;dsimp only [esV];go_wp2
   go_ret3
   exact ⟨by rw [HF.out];rfl,rfl⟩
 ·have e92:((s[i].toNat:Int)==92)=false:=bF h92
  clear HX;by_cases h32:(s[i].toNat:Int)<32
  ·have HF:Hid (za8 s i=.inr (i,22)):=(by show za8 s i=_;rw [HE.out,iN h92,iP (.inl h32)])
   clear HE h92;go_enter Tryz.func159,Tryz.ntmps159;go_wp2
   go_ret3
   exact ⟨by rw [HF.out];rfl,rfl⟩
  by_cases h127:(s[i].toNat:Int)=127
  ·have HF:Hid (za8 s i=.inr (i,22)):=(by show za8 s i=_;rw [HE.out,iN h92,iP (.inr h127)])
   have e127:((s[i].toNat:Int)==127)=true:=beq_iff_eq.2 h127;clear HE h92 h127;go_enter Tryz.func159,Tryz.ntmps159;go_wp2
   go_ret3
   exact ⟨by rw [HF.out];rfl,rfl⟩
  ·have HF:Hid (za8 s i=.inl ((s[i].toNat:Int),i+1)):=(by show za8 s i=_;rw [HE.out,iN h92,iN (by omega)])
   have e127:((s[i].toNat:Int)==127)=false:=bF h127;clear HE h92 h127;go_enter Tryz.func159,Tryz.ntmps159;go_wp2
   go_ret3
   exact ⟨by rw [HF.out];exact ret_by rfl (by omega),rfl⟩
theorem Tryz.info5:(Tryz.prog.info? 5).map (fun i=>(i.zero,i.size,i.bytes))=some (some (.int .u8 0),1,1):=by kernel_rfl
theorem zfk {w:World} {base:Nat} {v:Value} {l:List Int} (h:w.ownsRow base 5 1 v l.length (l.map (Value.int .u8))) :
  (convert 84 9 v).run Tryz.prog w=.ok (.string (zat l)) w:=by
 have hc:=h;obtain ⟨hlen,h2⟩:=h
 rcases h2 with ⟨rfl,hn⟩ | ⟨g,cap,cur,rfl,_⟩
 ·obtain rfl:l=[]:=List.eq_nil_of_length_eq_zero hn
  rw [run_convert_bytes_string w 84 9 5 _ _ _ Tryz.underlying84 Tryz.underlying5 Tryz.underlying9];rfl
 ·rw [run_convert_bytes_string w 84 9 5 _ _ _ Tryz.underlying84 Tryz.underlying5 Tryz.underlying9]
  refine run_bytesToString w ⟨g,0,none⟩ l.length cap l ?_;have:=run_loadCells_list (P:=Tryz.prog) (w:=w) ⟨g,0,none⟩ (l.map (Value.int .u8)) (hc.cells rfl)
  rwa [List.length_map] at this
structure FHolds (w:World) (b:Nat) (p q:Int):Prop where
 lt:b<w.heap.size
 c0:w.cell? ⟨b,0,none⟩=some (.int .i64 p)
 c1:w.cell? ⟨b,1,none⟩=some (.int .i64 q)
 f0:w.frozen? ⟨b,0,none⟩=false
 f1:w.frozen? ⟨b,1,none⟩=false
theorem FHolds.below {B:Nat} {w w':World} {b:Nat} {p q:Int} (h:FHolds w b p q) (hb:Below B w w') (hB:b<B):FHolds w' b p q :=
 ⟨nM h.lt hb.size,(hb.cell (p:=⟨b,0,none⟩) hB).trans h.c0,(hb.cell (p:=⟨b,1,none⟩) hB).trans h.c1,(hb.frozen (p:=⟨b,0,none⟩) hB).trans h.f0,(hb.frozen (p:=⟨b,1,none⟩) hB).trans h.f1⟩
theorem FHolds.new (w:World) (p q:Int):FHolds (w.alloc (.cells #[.int .i64 p,.int .i64 q] 27)) w.heap.size p q:=by
 constructor <;> simp [go_sem]
theorem FHolds.grown {w w':World} {b:Nat} {p q:Int} {row:Option Nat} (h:FHolds w b p q) (hg:w.grownBy w' row) (hne:row=some b->False):FHolds w' b p q:=by
 have e:=hg.block b h.lt (fun e=>hne e.symm);exact ⟨nM h.lt hg.size,(World.cell?_of_block (a:=⟨b,0,none⟩) e).trans h.c0,(World.cell?_of_block (a:=⟨b,1,none⟩) e).trans h.c1,
  (World.frozen?_of_block (a:=⟨b,0,none⟩) e).trans h.f0,(World.frozen?_of_block (a:=⟨b,1,none⟩) e).trans h.f1⟩
theorem FHolds.alloc {w:World} {b:Nat} {p q:Int} (h:FHolds w b p q) (o:Obj):FHolds (w.alloc o) b p q :=
 h.below (B:=w.heap.size) ((bR _ _).alloc (nL _) _) h.lt
theorem zcn {B:Nat} {w wr:World} {b:Nat} (hb:Below B w wr) (h:B<=b) (u v:Value):Below B w ((wr.setCell ⟨b,0,none⟩ u).setCell ⟨b,1,none⟩ v) :=
 (hb.setCell (p:=⟨b,0,none⟩) h _).setCell (p:=⟨b,1,none⟩) h _
structure AtL (w wr:World) (v:Value) (l:List Int):Prop where
 f:FHolds wr w.heap.size 0 0
 o:wr.ownsRow (w.heap.size+1) 5 1 v l.length (l.map (Value.int .u8))
 b:Below w.heap.size w wr
theorem zeQ (s:ByteArray) (i:Nat) (m:Int) (hm:0<=m) (hi:i<=s.size) (hs:s.size<=65536) (w:World) :
  Calls Tryz.prog 147 #[.string s,.int .i64 i,.int .u8 m] w (rB w (cuV (zbd s m (s.size+1) i []))):=by
 obtain ⟨i0,hinf,hz0,hz1,hz2⟩:=info_parts Tryz.info5;generalize hR:zbd s m (s.size+1) i []=R;have HR:=hO hR;clear hR;have HF:=hO (FHolds.new w 0 0);have HB:=hO ((bR w.heap.size w).alloc (nL _) (.cells #[.int .i64 0,.int .i64 0] 27));go_enter Tryz.func147,Tryz.ntmps147;go_wp2_with fail;go_loopw [1,9] (fun t v wr=>∃k:Nat,∃f:Nat,∃l:List Int,k<=s.size/\t=.int .i64 k/\l.length<=k/\Hid (s.size+1<=f+k)/\Hid (zbd s m f k l=R)/\Hid (AtL w wr v l)) (fun t _ _=>s.size - (intOf t).toNat)
 case atStart=>exact ⟨i,s.size+1,[],hi,by go_num,by simp,show _<=_ by omega,HR,⟨HF.out,World.ownsRow_nil _ _ _ _,HB.out⟩⟩
 case round =>
  obtain ⟨k,f,l,hk,rfl,hl,hf,hr,ha⟩:=hrel;obtain ⟨g,rfl⟩:∃g,f=g+1:=⟨f - 1,by have h:=hf.out;omega⟩;clear HR HF HB;have hlt:w.heap.size<wr.heap.size:=ha.out.f.lt;by_cases hks:k<s.size
  ·have hb:=zmL hks
   have HC:=hO (zal hks);by_cases hm1:chr s k=m
   ·have hr':Hid (R=.inl (l,k+1)):=(hr.out.symm.trans (zh9 hm1))
    have em:((s[k].toNat:Int)==m)=true:=beq_iff_eq.2 (by rw [<-HC.out];exact hm1);have ht:=zfk ha.out.o;clear hr hf hm1 hb HC;obtain ⟨_,c0,c1,f0,f1⟩:=ha.out.f;go_wp2_with fail;rw [hr'.out];refine bodyPost_ret (v:=cuV (.inl (l,k+1))) (by simp [results,Tryz.results147,go_sem,cuV, *]) rfl ⟨rfl,?_⟩;exact zcn ha.out.b (nL _) _ _
   ·have em:((s[k].toNat:Int)==m)=false:=bF (by rw [<-HC.out];exact hm1)
    have HRB:Hid (∀w,Cl 159 #[.string s,.int .i64 k] w (rU w (byV (za8 s k)))):=fun w=>zge s k hks (by omega) w
    cases hq:za8 s k with
    | inr pq =>
     obtain ⟨a,c⟩:=pq;obtain ⟨rfl,hc⟩:=zh8 hq;have hr':Hid (R=.inr (k,c)):=(hr.out.symm.trans (zib hm1 hks hq));have hc0:(c != 0)=true:=bne_iff_ne.2 (by omega);rw [hq] at HRB;dsimp only [byV] at HRB;clear hr hf hm1 hb HC hq hc;obtain ⟨_,c0,c1,f0,f1⟩:=ha.out.f;go_wp2_with fail;refine (HRB _).mono ?_;rintro e w1 ⟨rfl,rfl⟩;go_wp2_with fail;rw [hr'.out];refine bodyPost_ret (v:=cuV (.inr (k,c))) (by simp [results,Tryz.results147,go_sem,cuV, *]) rfl ⟨rfl,?_⟩;exact zcn ha.out.b (nL _) _ _
    | inl p =>
     obtain ⟨b,n⟩:=p;obtain ⟨b0,b1,b2,b3⟩:=zjw hq;have hr':Hid (zbd s m g n (l++[b])=R):=((zgO hm1 hks hq).symm.trans hr.out);have hf':Hid (s.size+1<=g+n):=(by have h:=hf.out;show _<=_;omega);rw [hq] at HRB;dsimp only [byV] at HRB;clear hr hf hm1 hb HC hq;have hO1:=ha.out.o;go_wp2_with fail;refine (HRB _).mono ?_;rintro e w1 ⟨rfl,rfl⟩;go_wp2_with (at_builtin;refine wpList_append_own _ rfl _ _ 84 rfl (w.heap.size+1) 5 i0 (.int .u8 0) 1 1 Tryz.underlying84 hinf hz0 hz1 hz2 rfl (by decide) _ _ _ rfl (hO1.alloc _) ⟨w1.heap.size,0,none⟩ 1 1 [.int .u8 b] rfl rfl (cell_one_new _ _ _) ?c2 ?c3 ?c4 ?c5 ?_)
     case c2=>intro u hu;simp at hu;subst hu;rfl
     case c3=>unfold maxLen;omega
     case c4=>omega
     case c5=>simp;omega
     intro v' w2 hown' hgrow _;have hle:=fun j e=>(hO1.lt j e).1
     have HA2:=(show Hid (AtL w w2 v' (l++[b])) from (by
      refine ⟨(ha.out.f.alloc (.cells #[.int .u8 b] 5)).grown hgrow (fun e=>by have:=hle _ e;omega),?_,(ha.out.b.alloc (by omega) (.cells #[.int .u8 b] 5)).grown hgrow (by simp;omega) (fun j e=>by have:=hle j e;omega)⟩;rw [lA,List.map_append];exact hown'))
     clear hO1 hown' hgrow hle ha;go_wp2
     go_roundw
     case rel=>exact ⟨n,g,l++[b],b3,rfl,by simp;omega,hf',hr',HA2⟩
     case measure=>simp [intOf];omega
  ·have hr':Hid (R=.inr (k,22)):=(hr.out.symm.trans ((zia (by omega) hm).trans (by rw [show k=s.size from by omega])))
   clear hr hf;obtain ⟨_,c0,c1,f0,f1⟩:=ha.out.f;go_wp2_with fail;rw [hr'.out];refine bodyPost_ret (v:=cuV (.inr (k,22))) (by simp [results,Tryz.results147,go_sem,cuV, *]) rfl ⟨rfl,?_⟩;exact zcn ha.out.b (nL _) _ _
theorem zoc (s:ByteArray) (i:Int) (w:World) :
  Calls Tryz.prog 132 #[.string s,.int .i64 i] w (rB w (cuV (zcc s i))):=by
 have HF:=hO (FHolds.new w 0 0);have HB:=hO ((bR w.heap.size w).alloc (nL _) (.cells #[.int .i64 0,.int .i64 0] 27));have HP:Hid (∀w,Cl 145 #[.string s,.int .i64 i] w (rU w (.int .i64 (cpE s i)))):=fun w=>zeP s i w
 by_cases hcp:cpE s i=0
 ·have hc:¬65536<s.size/\¬(i<0∨(s.size:Int)<i):=by
   unfold cpE at hcp;split at hcp
   ·omega
   ·split at hcp
    ·omega
    ·next a b=>exact ⟨a,b⟩
  obtain ⟨h1,h2⟩:=hc;have h0:0<=i:=by omega
  obtain ⟨n,rfl⟩:=Int.eq_ofNat_of_zero_le h0;have HE:Hid (zcc s (n:Int)=if chr s n=39∨chr s n=34 then zbd s (chr s n) (s.size+1) (n+1) [] else .inr (n,20)):=(by show zcc s (n:Int)=_;unfold zcc;rw [iN h1,iN h2,Int.toNat_natCast]);rw [hcp] at HP;clear hcp;by_cases hn:n<s.size
  ·have hnI:(n:Int)<(s.size:Int):=by omega
   have en:((n:Int)==(s.size:Int))=false:=bF (by omega);have HC:=hO (zal hn);have hb:=zmL hn;rw [HC.out] at hb;have HM:Hid (∀w,Cl 146 #[.int .u8 (s[n].toNat:Int)] w (rU w (.bool (mkB (s[n].toNat:Int))))):=fun w=>zik _ w
   cases hmk:mkB (s[n].toNat:Int)
   ·have HG:=(show Hid (zcc s (n:Int)=.inr (n,20)) from (by
     show zcc s (n:Int)=_
     rw [HE.out,iN];rw [HC.out];unfold mkB at hmk;simp at hmk
     omega))
    rw [hmk] at HM;clear HE hmk HC;go_enter Tryz.func132,Tryz.ntmps132;go_wp2_with fail;refine (HP _).mono ?_;rintro e w1 ⟨rfl,rfl⟩;go_wp2_with fail;refine (HM _).mono ?_;rintro e w1 ⟨rfl,rfl⟩;obtain ⟨_,c0,c1,f0,f1⟩:=HF.out;go_wp2_with fail;rw [HG.out];refine bodyPost_ret (v:=cuV (.inr (n,20))) (by simp [results,Tryz.results132,go_sem,cuV, *]) rfl ⟨rfl,?_⟩;exact (bR _ _).alloc (nL _) _
   ·have HG:=(show Hid (zcc s (n:Int)=zbd s (s[n].toNat:Int) (s.size+1) (n+1) []) from (by
     show zcc s (n:Int)=_
     rw [HE.out,iP]
     ·rw [HC.out]
     ·rw [HC.out]
      unfold mkB at hmk;simp at hmk
      omega))
    have HR:Hid (∀w,Cl 147 #[.string s,.int .i64 ((n:Int)+1),.int .u8 (s[n].toNat:Int)] w (rB w (cuV (zbd s (s[n].toNat:Int) (s.size+1) (n+1) [])))):=fun w=>zeQ s (n+1) _ (by omega) (by omega) (by omega) w
    rw [hmk] at HM;rw [<-HG.out] at HR;clear HE hmk HC HG;generalize zcc s (n:Int)=R at *;go_enter Tryz.func132,Tryz.ntmps132;go_wp2_with fail;refine (HP _).mono ?_;rintro e w1 ⟨rfl,rfl⟩;go_wp2_with fail;refine (HM _).mono ?_;rintro e w1 ⟨rfl,rfl⟩;go_wp2_with fail;refine (HR _).mono ?_;rintro e w2 ⟨rfl,hb2⟩;have HF2:=hO (HF.below hb2 HF.lt);have HB2:=hO (HB.trans (hb2.mono HB.size));have hl:w.heap.size<w2.heap.size:=HF2.lt;clear hb2 HR;obtain ⟨_,c0,c1,f0,f1⟩:=HF2.out
    cases R with
    | inr pq =>
     obtain ⟨a,c⟩:=pq;dsimp only [cuV];go_wp2_with fail;refine bodyPost_ret (v:=cuV (.inr (a,c))) (by simp [results,Tryz.results132,go_sem,cuV, *]) rfl ⟨rfl,?_⟩;exact zcn HB2 (nL _) _ _
    | inl p =>
     obtain ⟨l,e⟩:=p;dsimp only [cuV];go_wp2_with fail;refine bodyPost_ret (v:=cuV (.inl (l,e))) (by simp [results,Tryz.results132,go_sem,cuV, *]) rfl ⟨rfl,?_⟩;exact zcn HB2 (nL _) _ _
  ·have hnI:¬(n:Int)<(s.size:Int):=by omega
   have en:((n:Int)==(s.size:Int))=true:=beq_iff_eq.2 (by omega);have HG:=(show Hid (zcc s (n:Int)=.inr (n,20)) from (by
    show zcc s (n:Int)=_
    rw [HE.out,iN];rw [zau hn];omega))
   clear HE;go_enter Tryz.func132,Tryz.ntmps132;go_wp2_with fail;refine (HP _).mono ?_;rintro e w1 ⟨rfl,rfl⟩;obtain ⟨_,c0,c1,f0,f1⟩:=HF.out;go_wp2_with fail;rw [HG.out];refine bodyPost_ret (v:=cuV (.inr (n,20))) (by simp [results,Tryz.results132,go_sem,cuV, *]) rfl ⟨rfl,?_⟩;exact (bR _ _).alloc (nL _) _
 ·have HG:=(show Hid (zcc s i=.inr (0,(cpE s i))) from (by
   show zcc s i=_
   unfold zcc cpE at *
   split
   ·rfl
   ·next h =>
    rw [iN h] at hcp
    split
    ·rfl
    ·next h2=>rw [iN h2] at hcp;exact absurd rfl hcp))
  have ec:(cpE s i != 0)=true:=bne_iff_ne.2 hcp;clear hcp;generalize cpE s i=c at *;go_enter Tryz.func132,Tryz.ntmps132;go_wp2_with fail;refine (HP _).mono ?_;rintro e w1 ⟨rfl,rfl⟩;obtain ⟨_,c0,c1,f0,f1⟩:=HF.out;go_wp2_with fail;rw [HG.out];refine bodyPost_ret (v:=cuV (.inr (0,c))) (by simp [results,Tryz.results132,go_sem,cuV, *]) rfl ⟨rfl,?_⟩;exact (bR _ _).alloc (nL _) _
end Go.Proofs.YtkihfkcmcdiajaaGreatDoor.Q
namespace Go.Proofs.YtkihfkcmcdiajaaGreatDoor
open Go.RowKit
theorem zcS (s:ByteArray) (b:Nat) (hs:s.size<=65536) (hb:b<=s.size) (hq:chr s b=39∨chr s b=34) (w:World):Calls Tryz.prog 105 #[.string s,.int .i64 b] w (rB w (za0 (zbY s b))):=by
 have HF:Hid (∀i e w,Cl 128 #[.int .i64 i,.int .i64 e] w fun e' w'=>e'=.returned (zaQ tk0 i e)/\Below w.heap.size w w'):=fun i e w=>zaJ i e w
 have HC:Hid (∀w,Cl 132 #[.string s,.int .i64 b] w (rB w (Q.cuV (Q.zcc s b)))):=fun w=>Q.zoc s b w
 have HX:Hid (BX w ((w.alloc (tkO tk0)).alloc (fxO 0 0)) tk0 0 0):=BX.new w;have HU:Hid (zbY s b=zk2 s b (Q.zcc s b)):=(zlR s b hs hb hq).symm
 cases hr:Q.zcc s b with
 | inr p =>
  obtain ⟨a,c⟩:=p;obtain ⟨ha,hcc⟩:=zj3 hs hb hq hr;obtain ⟨a,rfl⟩:∃k:Nat,a=k:=⟨a.toNat,by omega⟩;rw [hr,zk2,Int.toNat_natCast] at HU;rw [hr] at HC;clear hr ha hq;unfold Q.cuV at HC
  rcases hcc with rfl | rfl
  ·have HE:Hid (zbY s b=.inr (a,51)):=by show zbY s b=_;rw [HU.out,iP rfl]
   clear HU;go_enter Tryz.func105,Tryz.ntmps105;go_wp2_with fail;refine (HC _).mono ?_;rintro e w2 ⟨rfl,b2⟩;have HX2:Hid (BX w (w2.alloc (fxO a 21)) tk0 0 0):=(HX.below b2).below (zaa _ _);clear b2 HX HC;go_wp2_with fail;refine (HF _ _ _).mono ?_;rintro e w3 ⟨rfl,b3⟩;have HX3:=hO (HX2.below b3);clear b3 HX2 HF;obtain ⟨f0,f1',f2',f3,f4,f5,f6,f7,f8,g0,g1⟩:=HX3.fz;obtain ⟨c0,c1,c2,c3,c4,c5,c6,c7,c8,d0,d1⟩:=HX3.cells;unfold zaQ;go_wp2_with fail;have HP:=HX3.put tk0 a 51;exact zao rfl rfl rfl rfl HP ⟨by rw [HE.out];rfl,HP.b⟩
  ·by_cases hlt:a<s.size
   ·have HE:Hid (zbY s b=.inr (a,50)):=by show zbY s b=_;rw [HU.out,iN (by decide),iP ⟨rfl,by omega⟩]
    have z1:(a:Int)<(s.size:Int):=by omega
    clear HU;go_enter Tryz.func105,Tryz.ntmps105;go_wp2_with fail;refine (HC _).mono ?_;rintro e w2 ⟨rfl,b2⟩;have HX2:Hid (BX w (w2.alloc (fxO a 22)) tk0 0 0):=(HX.below b2).below (zaa _ _);clear b2 HX HC;go_wp2_with fail;refine (HF _ _ _).mono ?_;rintro e w3 ⟨rfl,b3⟩;have HX3:=hO (HX2.below b3);clear b3 HX2 HF;obtain ⟨f0,f1',f2',f3,f4,f5,f6,f7,f8,g0,g1⟩:=HX3.fz;obtain ⟨c0,c1,c2,c3,c4,c5,c6,c7,c8,d0,d1⟩:=HX3.cells;unfold zaQ;go_wp2_with fail;have HP:=HX3.put tk0 a 50;exact zao rfl rfl rfl rfl HP ⟨by rw [HE.out];rfl,HP.b⟩
   ·have HE:Hid (zbY s b=.inr (b,52)):=by show zbY s b=_;rw [HU.out,iN (by decide),iN (by omega)]
    have z1:¬(a:Int)<(s.size:Int):=by omega
    clear HU;go_enter Tryz.func105,Tryz.ntmps105;go_wp2_with fail;refine (HC _).mono ?_;rintro e w2 ⟨rfl,b2⟩;have HX2:Hid (BX w (w2.alloc (fxO a 22)) tk0 0 0):=(HX.below b2).below (zaa _ _);clear b2 HX HC;go_wp2_with fail;refine (HF _ _ _).mono ?_;rintro e w3 ⟨rfl,b3⟩;have HX3:=hO (HX2.below b3);clear b3 HX2 HF;obtain ⟨f0,f1',f2',f3,f4,f5,f6,f7,f8,g0,g1⟩:=HX3.fz;obtain ⟨c0,c1,c2,c3,c4,c5,c6,c7,c8,d0,d1⟩:=HX3.cells;unfold zaQ;go_wp2_with fail;have HP:=HX3.put tk0 b 52;exact zao rfl rfl rfl rfl HP ⟨by rw [HE.out];rfl,HP.b⟩
 | inl p =>
  obtain ⟨l,n⟩:=p;rw [hr,zk2] at HU;rw [hr] at HC;clear hr hq
  replace HC:=(show Hid (∀w,Calls Tryz.prog 132 #[.string s,.int .i64 b] w (rB w (.tuple #[.string (zat l),.int .i64 n,.agg #[.int .i64 0,.int .i64 0]]))) from HC)
  have hsz:(zat l).size=l.length:=zbo l;by_cases h255:255<l.length
  ·have HE:Hid (zbY s b=.inr (b,2)):=by show zbY s b=_;rw [HU.out,iP h255]
   have z1:(255:Int)<((zat l).size:Int):=by omega
   clear HU hsz h255;generalize zat l=t at *;go_enter Tryz.func105,Tryz.ntmps105;go_wp2_with fail;refine (HC _).mono ?_;rintro e w2 ⟨rfl,b2⟩;have HX2:Hid (BX w (w2.alloc (fxO 0 0)) tk0 0 0):=(HX.below b2).below (zaa _ _);clear b2 HX HC;go_wp2_with fail;refine (HF _ _ _).mono ?_;rintro e w3 ⟨rfl,b3⟩;have HX3:=hO (HX2.below b3);clear b3 HX2 HF;obtain ⟨f0,f1',f2',f3,f4,f5,f6,f7,f8,g0,g1⟩:=HX3.fz;obtain ⟨c0,c1,c2,c3,c4,c5,c6,c7,c8,d0,d1⟩:=HX3.cells;unfold zaQ;go_wp2_with fail;have HP:=HX3.put tk0 b 2;exact zao rfl rfl rfl rfl HP ⟨by rw [HE.out];rfl,HP.b⟩
  ·have HE:Hid (zbY s b=.inl ⟨2,0,b,n,zat l,0,0,0,0⟩):=by show zbY s b=_;rw [HU.out,iN h255]
   have z1:¬(255:Int)<((zat l).size:Int):=by omega
   clear HU hsz h255 HF;generalize zat l=t at *;go_enter Tryz.func105,Tryz.ntmps105;go_wp2_with fail;refine (HC _).mono ?_;rintro e w2 ⟨rfl,b2⟩;have HX2:=hO (HX.below b2);clear b2 HX HC;obtain ⟨f0,f1',f2',f3,f4,f5,f6,f7,f8,g0,g1⟩:=HX2.fz;obtain ⟨c0,c1,c2,c3,c4,c5,c6,c7,c8,d0,d1⟩:=HX2.cells;have hsz2:=HX2.size;have hl1:w.heap.size<w2.heap.size:=by omega
   have hne1:w.heap.size≠w2.heap.size:=by omega
   have hne2:w.heap.size+1≠w2.heap.size:=by omega
   go_wp2_with fail;have HP:=(HX2.put ⟨2,0,b,n,t,0,0,0,0⟩ 0 0).below (zaa _ (fxO 0 0));exact zao rfl rfl rfl rfl HP ⟨by rw [HE.out];rfl,HP.b⟩
def zaN (s:ByteArray) (b:Nat):Sum Tk (Nat×Int) :=
 if hdB (chr s b)=true then zcB s b else if dgB (chr s b)=true then nmR s b b 4 else if chr s b=39∨chr s b=34 then zbY s b
 else if chr s b=91 then clT s b (zap s b) else if chr s b=37 then zcY s b else zbS s b
theorem zod (s:ByteArray) (b:Nat) (hs:s.size<=65536) (hb:b<s.size) (h:hdB (chr s b)=true) (w:World) (hg:SG w):Calls Tryz.prog 79 #[.string s,.int .i64 b] w (rB w (za0 (zaN s b))):=by
 have HX:Hid (BX w ((w.alloc (tkO tk0)).alloc (fxO 0 0)) tk0 0 0):=BX.new w;have HG:Hid (SG ((w.alloc (tkO tk0)).alloc (fxO 0 0))):=(hg.later (zaa _ _)).later (zaa _ _);have hc:=zal hb;have HH:Hid (∀w,Cl 101 #[.int .u8 (s[b].toNat:Int)] w (rU w (.bool (hdB (chr s b))))):=fun w=>by rw [hc];exact zaW _ w
 have HD:Hid (∀w,Cl 103 #[.int .u8 (s[b].toNat:Int)] w (rU w (.bool (dgB (chr s b))))):=fun w=>by rw [hc];exact zba _ w
 have z0:(0:Int)<=(b:Int):=by omega
 have z1:(b:Int)<(s.size:Int):=by omega
 clear hg;have HN:Hid (∀w,Cl 102 #[.string s,.int .i64 b] w (rB w (za0 (zcB s b)))):=fun w=>zcO s b (by omega) (by omega) w
 have HE:Hid (zaN s b=zcB s b):=by show zaN s b=_;unfold zaN;rw [iP h]
 rw [h] at HH;clear HD HG hc h;go_enter Tryz.func79,Tryz.ntmps79;go_wp2_with fail;refine (HH _).mono ?_;rintro e w1 ⟨rfl,rfl⟩;clear HH;go_wp2_with fail;refine (HN _).mono ?_;rintro e w3 ⟨rfl,b3⟩;have HX3:=hO (HX.below b3);clear b3 HX HN;obtain ⟨f0,f1',f2',f3,f4,f5,f6,f7,f8,g0,g1⟩:=HX3.fz;obtain ⟨c0,c1,c2,c3,c4,c5,c6,c7,c8,d0,d1⟩:=HX3.cells;generalize zcB s b=r at *
 cases r with
 | inl t =>
  unfold za0;go_wp2_with fail;have HP:=HX3.put t 0 0;exact zao rfl rfl rfl rfl HP ⟨by rw [HE.out];rfl,HP.b⟩
 | inr q =>
  unfold za0;go_wp2_with fail;have HP:=HX3.put tk0 q.1 q.2;exact zao rfl rfl rfl rfl HP ⟨by rw [HE.out];rfl,HP.b⟩
theorem rt_num (s:ByteArray) (b:Nat) (hs:s.size<=65536) (hb:b<s.size) (h:hdB (chr s b)=false) (h2:dgB (chr s b)=true) (w:World) (hg:SG w):Calls Tryz.prog 79 #[.string s,.int .i64 b] w (rB w (za0 (zaN s b))):=by
 have HX:Hid (BX w ((w.alloc (tkO tk0)).alloc (fxO 0 0)) tk0 0 0):=BX.new w;have HG:Hid (SG ((w.alloc (tkO tk0)).alloc (fxO 0 0))):=(hg.later (zaa _ _)).later (zaa _ _);have hc:=zal hb;have HH:Hid (∀w,Cl 101 #[.int .u8 (s[b].toNat:Int)] w (rU w (.bool (hdB (chr s b))))):=fun w=>by rw [hc];exact zaW _ w
 have HD:Hid (∀w,Cl 103 #[.int .u8 (s[b].toNat:Int)] w (rU w (.bool (dgB (chr s b))))):=fun w=>by rw [hc];exact zba _ w
 have z0:(0:Int)<=(b:Int):=by omega
 have z1:(b:Int)<(s.size:Int):=by omega
 clear hg;have HN:Hid (∀w,Cl 104 #[.string s,.int .i64 b,.int .i64 b,.int .i64 4] w (rB w (za0 (nmR s b b 4)))):=fun w=>zbL s b b 4 (by omega) (by omega) (by omega) w
 have HE:Hid (zaN s b=nmR s b b 4):=by show zaN s b=_;unfold zaN;rw [iN (by rw [h];decide),iP h2]
 rw [h] at HH;rw [h2] at HD;clear HG hc h h2;go_enter Tryz.func79,Tryz.ntmps79;go_wp2_with fail;refine (HH _).mono ?_;rintro e w1 ⟨rfl,rfl⟩;clear HH;go_wp2_with fail;refine (HD _).mono ?_;rintro e w1 ⟨rfl,rfl⟩;clear HD;go_wp2_with fail;refine (HN _).mono ?_;rintro e w3 ⟨rfl,b3⟩;have HX3:=hO (HX.below b3);clear b3 HX HN;obtain ⟨f0,f1',f2',f3,f4,f5,f6,f7,f8,g0,g1⟩:=HX3.fz;obtain ⟨c0,c1,c2,c3,c4,c5,c6,c7,c8,d0,d1⟩:=HX3.cells;generalize nmR s b b 4=r at *
 cases r with
 | inl t =>
  unfold za0;go_wp2_with fail;have HP:=HX3.put t 0 0;exact zao rfl rfl rfl rfl HP ⟨by rw [HE.out];rfl,HP.b⟩
 | inr q =>
  unfold za0;go_wp2_with fail;have HP:=HX3.put tk0 q.1 q.2;exact zao rfl rfl rfl rfl HP ⟨by rw [HE.out];rfl,HP.b⟩
theorem zoe (s:ByteArray) (b:Nat) (hs:s.size<=65536) (hb:b<s.size) (h:hdB (chr s b)=false) (h2:dgB (chr s b)=false) (h3:chr s b=39) (w:World) (hg:SG w):Calls Tryz.prog 79 #[.string s,.int .i64 b] w (rB w (za0 (zaN s b))):=by
 have HX:Hid (BX w ((w.alloc (tkO tk0)).alloc (fxO 0 0)) tk0 0 0):=BX.new w;have HG:Hid (SG ((w.alloc (tkO tk0)).alloc (fxO 0 0))):=(hg.later (zaa _ _)).later (zaa _ _);have hc:=zal hb;have HH:Hid (∀w,Cl 101 #[.int .u8 (s[b].toNat:Int)] w (rU w (.bool (hdB (chr s b))))):=fun w=>by rw [hc];exact zaW _ w
 have HD:Hid (∀w,Cl 103 #[.int .u8 (s[b].toNat:Int)] w (rU w (.bool (dgB (chr s b))))):=fun w=>by rw [hc];exact zba _ w
 have z0:(0:Int)<=(b:Int):=by omega
 have z1:(b:Int)<(s.size:Int):=by omega
 clear hg;have HN:Hid (∀w,Cl 105 #[.string s,.int .i64 b] w (rB w (za0 (zbY s b)))):=fun w=>zcS s b hs (by omega) (.inl h3) w
 have HE:Hid (zaN s b=zbY s b):=by show zaN s b=_;unfold zaN;rw [iN (by rw [h];decide),iN (by rw [h2];decide),iP (.inl h3)]
 rw [h] at HH;rw [h2] at HD;have v1:((s[b].toNat:Int)==39)=true:=by rw [<-hc,h3];rfl
 clear h3;clear hc h h2 HG;go_enter Tryz.func79,Tryz.ntmps79;go_wp2_with fail;refine (HH _).mono ?_;rintro e w1 ⟨rfl,rfl⟩;clear HH;go_wp2_with fail;refine (HD _).mono ?_;rintro e w1 ⟨rfl,rfl⟩;clear HD;go_wp2_with fail;refine (HN _).mono ?_;rintro e w3 ⟨rfl,b3⟩;have HX3:=hO (HX.below b3);clear b3 HX HN;obtain ⟨f0,f1',f2',f3,f4,f5,f6,f7,f8,g0,g1⟩:=HX3.fz;obtain ⟨c0,c1,c2,c3,c4,c5,c6,c7,c8,d0,d1⟩:=HX3.cells;generalize zbY s b=r at *
 cases r with
 | inl t =>
  unfold za0;go_wp2_with fail;have HP:=HX3.put t 0 0;exact zao rfl rfl rfl rfl HP ⟨by rw [HE.out];rfl,HP.b⟩
 | inr q =>
  unfold za0;go_wp2_with fail;have HP:=HX3.put tk0 q.1 q.2;exact zao rfl rfl rfl rfl HP ⟨by rw [HE.out];rfl,HP.b⟩
theorem zof (s:ByteArray) (b:Nat) (hs:s.size<=65536) (hb:b<s.size) (h:hdB (chr s b)=false) (h2:dgB (chr s b)=false) (h3:chr s b=34) (w:World) (hg:SG w):Calls Tryz.prog 79 #[.string s,.int .i64 b] w (rB w (za0 (zaN s b))):=by
 have HX:Hid (BX w ((w.alloc (tkO tk0)).alloc (fxO 0 0)) tk0 0 0):=BX.new w;have HG:Hid (SG ((w.alloc (tkO tk0)).alloc (fxO 0 0))):=(hg.later (zaa _ _)).later (zaa _ _);have hc:=zal hb;have HH:Hid (∀w,Cl 101 #[.int .u8 (s[b].toNat:Int)] w (rU w (.bool (hdB (chr s b))))):=fun w=>by rw [hc];exact zaW _ w
 have HD:Hid (∀w,Cl 103 #[.int .u8 (s[b].toNat:Int)] w (rU w (.bool (dgB (chr s b))))):=fun w=>by rw [hc];exact zba _ w
 have z0:(0:Int)<=(b:Int):=by omega
 have z1:(b:Int)<(s.size:Int):=by omega
 clear hg;have HN:Hid (∀w,Cl 105 #[.string s,.int .i64 b] w (rB w (za0 (zbY s b)))):=fun w=>zcS s b hs (by omega) (.inr h3) w
 have HE:Hid (zaN s b=zbY s b):=by show zaN s b=_;unfold zaN;rw [iN (by rw [h];decide),iN (by rw [h2];decide),iP (.inr h3)]
 rw [h] at HH;rw [h2] at HD;have v1:((s[b].toNat:Int)==39)=false:=by rw [<-hc,h3];rfl
 have v2:((s[b].toNat:Int)==34)=true:=by rw [<-hc,h3];rfl
 clear h3;clear hc h h2 HG;go_enter Tryz.func79,Tryz.ntmps79;go_wp2_with fail;refine (HH _).mono ?_;rintro e w1 ⟨rfl,rfl⟩;clear HH;go_wp2_with fail;refine (HD _).mono ?_;rintro e w1 ⟨rfl,rfl⟩;clear HD;go_wp2_with fail;refine (HN _).mono ?_;rintro e w3 ⟨rfl,b3⟩;have HX3:=hO (HX.below b3);clear b3 HX HN;obtain ⟨f0,f1',f2',f3,f4,f5,f6,f7,f8,g0,g1⟩:=HX3.fz;obtain ⟨c0,c1,c2,c3,c4,c5,c6,c7,c8,d0,d1⟩:=HX3.cells;generalize zbY s b=r at *
 cases r with
 | inl t =>
  unfold za0;go_wp2_with fail;have HP:=HX3.put t 0 0;exact zao rfl rfl rfl rfl HP ⟨by rw [HE.out];rfl,HP.b⟩
 | inr q =>
  unfold za0;go_wp2_with fail;have HP:=HX3.put tk0 q.1 q.2;exact zao rfl rfl rfl rfl HP ⟨by rw [HE.out];rfl,HP.b⟩
theorem rt_cls (s:ByteArray) (b:Nat) (hs:s.size<=65536) (hb:b<s.size) (h:hdB (chr s b)=false) (h2:dgB (chr s b)=false) (h3:chr s b=91) (w:World) (hg:SG w):Calls Tryz.prog 79 #[.string s,.int .i64 b] w (rB w (za0 (zaN s b))):=by
 have HX:Hid (BX w ((w.alloc (tkO tk0)).alloc (fxO 0 0)) tk0 0 0):=BX.new w;have HG:Hid (SG ((w.alloc (tkO tk0)).alloc (fxO 0 0))):=(hg.later (zaa _ _)).later (zaa _ _);have hc:=zal hb;have HH:Hid (∀w,Cl 101 #[.int .u8 (s[b].toNat:Int)] w (rU w (.bool (hdB (chr s b))))):=fun w=>by rw [hc];exact zaW _ w
 have HD:Hid (∀w,Cl 103 #[.int .u8 (s[b].toNat:Int)] w (rU w (.bool (dgB (chr s b))))):=fun w=>by rw [hc];exact zba _ w
 have z0:(0:Int)<=(b:Int):=by omega
 have z1:(b:Int)<(s.size:Int):=by omega
 clear hg;have HN:Hid (∀w,Cl 106 #[.string s,.int .i64 b] w (rB w (za0 (clT s b (zap s b))))):=fun w=>zgZ s b (by omega) w
 have HE:Hid (zaN s b=clT s b (zap s b)):=by show zaN s b=_;unfold zaN;rw [iN (by rw [h];decide),iN (by rw [h2];decide),iN (by omega),iP h3]
 rw [h] at HH;rw [h2] at HD;have v1:((s[b].toNat:Int)==39)=false:=by rw [<-hc,beq_eq_false_iff_ne];omega
 have v2:((s[b].toNat:Int)==34)=false:=by rw [<-hc,beq_eq_false_iff_ne];omega
 have v3:((s[b].toNat:Int)==91)=true:=by rw [<-hc,h3];rfl
 clear h3;clear hc h h2 HG;go_enter Tryz.func79,Tryz.ntmps79;go_wp2_with fail;refine (HH _).mono ?_;rintro e w1 ⟨rfl,rfl⟩;clear HH;go_wp2_with fail;refine (HD _).mono ?_;rintro e w1 ⟨rfl,rfl⟩;clear HD;go_wp2_with fail;refine (HN _).mono ?_;rintro e w3 ⟨rfl,b3⟩;have HX3:=hO (HX.below b3);clear b3 HX HN;obtain ⟨f0,f1',f2',f3,f4,f5,f6,f7,f8,g0,g1⟩:=HX3.fz;obtain ⟨c0,c1,c2,c3,c4,c5,c6,c7,c8,d0,d1⟩:=HX3.cells;generalize clT s b (zap s b)=r at *
 cases r with
 | inl t =>
  unfold za0;go_wp2_with fail;have HP:=HX3.put t 0 0;exact zao rfl rfl rfl rfl HP ⟨by rw [HE.out];rfl,HP.b⟩
 | inr q =>
  unfold za0;go_wp2_with fail;have HP:=HX3.put tk0 q.1 q.2;exact zao rfl rfl rfl rfl HP ⟨by rw [HE.out];rfl,HP.b⟩
theorem rt_pct (s:ByteArray) (b:Nat) (hs:s.size<=65536) (hb:b<s.size) (h:hdB (chr s b)=false) (h2:dgB (chr s b)=false) (h3:chr s b=37) (w:World) (hg:SG w):Calls Tryz.prog 79 #[.string s,.int .i64 b] w (rB w (za0 (zaN s b))):=by
 have HX:Hid (BX w ((w.alloc (tkO tk0)).alloc (fxO 0 0)) tk0 0 0):=BX.new w;have HG:Hid (SG ((w.alloc (tkO tk0)).alloc (fxO 0 0))):=(hg.later (zaa _ _)).later (zaa _ _);have hc:=zal hb;have HH:Hid (∀w,Cl 101 #[.int .u8 (s[b].toNat:Int)] w (rU w (.bool (hdB (chr s b))))):=fun w=>by rw [hc];exact zaW _ w
 have HD:Hid (∀w,Cl 103 #[.int .u8 (s[b].toNat:Int)] w (rU w (.bool (dgB (chr s b))))):=fun w=>by rw [hc];exact zba _ w
 have z0:(0:Int)<=(b:Int):=by omega
 have z1:(b:Int)<(s.size:Int):=by omega
 clear hg;have HN:Hid (∀w,SG w->Cl 107 #[.string s,.int .i64 b] w (rB w (za0 (zcY s b)))):=fun w g=>zeD s b (by omega) (by omega) w g
 have HE:Hid (zaN s b=zcY s b):=by show zaN s b=_;unfold zaN;rw [iN (by rw [h];decide),iN (by rw [h2];decide),iN (by omega),iN (by omega),iP h3]
 rw [h] at HH;rw [h2] at HD;have v1:((s[b].toNat:Int)==39)=false:=by rw [<-hc,beq_eq_false_iff_ne];omega
 have v2:((s[b].toNat:Int)==34)=false:=by rw [<-hc,beq_eq_false_iff_ne];omega
 have v3:((s[b].toNat:Int)==91)=false:=by rw [<-hc,h3];rfl
 have v4:((s[b].toNat:Int)==37)=true:=by rw [<-hc,h3];rfl
 clear h3;clear hc h h2;go_enter Tryz.func79,Tryz.ntmps79;go_wp2_with fail;refine (HH _).mono ?_;rintro e w1 ⟨rfl,rfl⟩;clear HH;go_wp2_with fail;refine (HD _).mono ?_;rintro e w1 ⟨rfl,rfl⟩;clear HD;go_wp2_with fail;refine (HN _ HG.out).mono ?_;rintro e w3 ⟨rfl,b3⟩;have HX3:=hO (HX.below b3);clear b3 HX HN HG;obtain ⟨f0,f1',f2',f3,f4,f5,f6,f7,f8,g0,g1⟩:=HX3.fz;obtain ⟨c0,c1,c2,c3,c4,c5,c6,c7,c8,d0,d1⟩:=HX3.cells;generalize zcY s b=r at *
 cases r with
 | inl t =>
  unfold za0;go_wp2_with fail;have HP:=HX3.put t 0 0;exact zao rfl rfl rfl rfl HP ⟨by rw [HE.out];rfl,HP.b⟩
 | inr q =>
  unfold za0;go_wp2_with fail;have HP:=HX3.put tk0 q.1 q.2;exact zao rfl rfl rfl rfl HP ⟨by rw [HE.out];rfl,HP.b⟩
theorem rt_sgn (s:ByteArray) (b:Nat) (hs:s.size<=65536) (hb:b<s.size) (h:hdB (chr s b)=false) (h2:dgB (chr s b)=false) (h3:¬chr s b=39) (h4:¬chr s b=34) (h5:¬chr s b=91) (h6:¬chr s b=37) (w:World) (hg:SG w):Calls Tryz.prog 79 #[.string s,.int .i64 b] w (rB w (za0 (zaN s b))):=by
 have HX:Hid (BX w ((w.alloc (tkO tk0)).alloc (fxO 0 0)) tk0 0 0):=BX.new w;have HG:Hid (SG ((w.alloc (tkO tk0)).alloc (fxO 0 0))):=(hg.later (zaa _ _)).later (zaa _ _);have hc:=zal hb;have HH:Hid (∀w,Cl 101 #[.int .u8 (s[b].toNat:Int)] w (rU w (.bool (hdB (chr s b))))):=fun w=>by rw [hc];exact zaW _ w
 have HD:Hid (∀w,Cl 103 #[.int .u8 (s[b].toNat:Int)] w (rU w (.bool (dgB (chr s b))))):=fun w=>by rw [hc];exact zba _ w
 have z0:(0:Int)<=(b:Int):=by omega
 have z1:(b:Int)<(s.size:Int):=by omega
 clear hg;have HN:Hid (∀w,SG w->Cl 108 #[.string s,.int .i64 b] w (rB w (za0 (zbS s b)))):=fun w g=>zdX s b (by omega) (by omega) w g
 have HE:Hid (zaN s b=zbS s b):=by show zaN s b=_;unfold zaN;rw [iN (by rw [h];decide),iN (by rw [h2];decide),iN (by omega),iN h5,iN h6]
 rw [h] at HH;rw [h2] at HD;have v1:((s[b].toNat:Int)==39)=false:=by rw [<-hc,beq_eq_false_iff_ne];omega
 have v2:((s[b].toNat:Int)==34)=false:=by rw [<-hc,beq_eq_false_iff_ne];omega
 have v3:((s[b].toNat:Int)==91)=false:=by rw [<-hc,beq_eq_false_iff_ne];exact h5
 have v4:((s[b].toNat:Int)==37)=false:=by rw [<-hc,beq_eq_false_iff_ne];exact h6
 clear h3 h4 h5 h6;clear hc h h2;go_enter Tryz.func79,Tryz.ntmps79;go_wp2_with fail;refine (HH _).mono ?_;rintro e w1 ⟨rfl,rfl⟩;clear HH;go_wp2_with fail;refine (HD _).mono ?_;rintro e w1 ⟨rfl,rfl⟩;clear HD;go_wp2_with fail;refine (HN _ HG.out).mono ?_;rintro e w3 ⟨rfl,b3⟩;have HX3:=hO (HX.below b3);clear b3 HX HN HG;obtain ⟨f0,f1',f2',f3,f4,f5,f6,f7,f8,g0,g1⟩:=HX3.fz;obtain ⟨c0,c1,c2,c3,c4,c5,c6,c7,c8,d0,d1⟩:=HX3.cells;generalize zbS s b=r at *
 cases r with
 | inl t =>
  unfold za0;go_wp2_with fail;have HP:=HX3.put t 0 0;exact zao rfl rfl rfl rfl HP ⟨by rw [HE.out];rfl,HP.b⟩
 | inr q =>
  unfold za0;go_wp2_with fail;have HP:=HX3.put tk0 q.1 q.2;exact zao rfl rfl rfl rfl HP ⟨by rw [HE.out];rfl,HP.b⟩
theorem zfJ (s:ByteArray) (b:Nat) (hs:s.size<=65536) (hb:b<s.size) (w:World) (hg:SG w):Calls Tryz.prog 79 #[.string s,.int .i64 b] w (rB w (za0 (zaN s b))):=by
 cases h:hdB (chr s b) with
 | true=>exact zod s b hs hb h w hg
 | false =>
  cases h2:dgB (chr s b) with
  | true=>exact rt_num s b hs hb h h2 w hg
  | false =>
   by_cases h3:chr s b=39
   ·exact zoe s b hs hb h h2 h3 w hg
   by_cases h4:chr s b=34
   ·exact zof s b hs hb h h2 h4 w hg
   by_cases h5:chr s b=91
   ·exact rt_cls s b hs hb h h2 h5 w hg
   by_cases h6:chr s b=37
   ·exact rt_pct s b hs hb h h2 h6 w hg
   ·exact rt_sgn s b hs hb h h2 h3 h4 h5 h6 w hg
theorem zgf (s:ByteArray):∀(f g i:Nat),s.size - i<f->s.size - i<g->ze1 s f i=ze1 s g i:=by
 intro f
 induction f with
 | zero=>intro g i h;omega
 | succ f ih =>
  intro g i h1 h2;obtain ⟨g,rfl⟩:∃k,g=k+1:=⟨g - 1,by omega⟩;rw [ze1,ze1];by_cases hi:i<s.size
  ·rw [iP hi,iP hi]
   by_cases hc:chr s i=45/\chr s (i+1)=45
   ·rw [iP hc,iP hc]
    have h3:=(za5 (P:=lnB) (s:=s) (i:=i) (by decide) (by rw [hc.1];rfl)).2;have h4:=zbc lnB s (by decide) (i+1);exact ih g _ (by omega) (by omega)
   ·rw [iN hc,iN hc]
    by_cases hb:chr s i=9∨chr s i=10∨chr s i=13∨chr s i=32
    ·rw [iP hb,iP hb]
     exact ih g _ (by omega) (by omega)
    ·rw [iN hb,iN hb]
  ·rw [iN hi,iN hi]
theorem zdv (s:ByteArray) (i:Nat):zbD s i=if i<s.size then (if chr s i=45/\chr s (i+1)=45 then zbD s (spN lnB s i) else if chr s i=9∨chr s i=10∨chr s i=13∨chr s i=32 then zbD s (i+1) else i) else i:=by
 show ze1 s (s.size+1) i=_
 rw [ze1];by_cases hi:i<s.size
 ·rw [iP hi,iP hi]
  by_cases hc:chr s i=45/\chr s (i+1)=45
  ·rw [iP hc,iP hc]
   have h3:=(za5 (P:=lnB) (s:=s) (i:=i) (by decide) (by rw [hc.1];rfl)).2;have h4:=zbc lnB s (by decide) (i+1);exact zgf s _ _ _ (by omega) (by omega)
  ·rw [iN hc,iN hc]
   by_cases hb:chr s i=9∨chr s i=10∨chr s i=13∨chr s i=32
   ·rw [iP hb,iP hb]
    exact zgf s _ _ _ (by omega) (by omega)
   ·rw [iN hb,iN hb]
 ·rw [iN hi,iN hi]
theorem blB_iff {c:Int}:blB c=true↔(c=9∨c=10∨c=13∨c=32):=by
 unfold blB;simp [Bool.or_eq_true,or_assoc]
theorem zdf (s:ByteArray):∀(d i:Nat),s.size - i=d->zbD s (spN blB s i)=zbD s i:=by
 intro d
 induction d with
 | zero =>
  intro i hi;rw [zbm (by rw [zau (by omega)];rfl)]
 | succ d ih =>
  intro i hi
  cases h:blB (chr s i) with
  | false=>rw [zbm h]
  | true =>
   obtain ⟨h1,h2⟩:=za5 (by decide) h;have h3:=blB_iff.1 h;rw [h2,ih (i+1) (by omega),zdv s i,iP h1,iN (by omega),iP h3]
theorem zlS {s:ByteArray} {i:Nat} (h:spN blB s i=s.size):zbD s i=s.size:=by
 rw [<-zdf s _ i rfl,h,zdv,iN (by omega)]
theorem zj4 {s:ByteArray} {i:Nat} (h:chr s (spN blB s i)=45) (h2:chr s (spN blB s i+1)=45):zbD s i=zbD s (spN lnB s (spN blB s i))/\spN blB s i<spN lnB s (spN blB s i):=by
 have h3:=za5 (P:=lnB) (s:=s) (i:=spN blB s i) (by decide) (by rw [h];rfl);have h4:=zbc lnB s (by decide) (spN blB s i+1);refine ⟨?_,by omega⟩;rw [<-zdf s _ i rfl,zdv,iP h3.1,iP ⟨h,h2⟩]
theorem zj5 {s:ByteArray} {i:Nat} (h:spN blB s i<s.size) (h2:¬(chr s (spN blB s i)=45/\chr s (spN blB s i+1)=45)):zbD s i=spN blB s i:=by
 have hb:blB (chr s (spN blB s i))=false:=(zbX blB s (by decide) _ i rfl).2.2.1;have h3:¬(chr s (spN blB s i)=9∨chr s (spN blB s i)=10∨chr s (spN blB s i)=13∨chr s (spN blB s i)=32):=fun q=>by rw [blB_iff.2 q] at hb;cases hb
 rw [<-zdf s _ i rfl,zdv,iP h,iN h2,iN h3]
end Go.Proofs.YtkihfkcmcdiajaaGreatDoor
namespace Go.Proofs.YtkihfkcmcdiajaaGreatDoor.N
open Go.RowKit
def zdZ (E:PE) (z:Nat):Nat->List Rl->Option (Int×Int)
 | _,[]=>none
 | all,r::rs=>if (T.ck r.2.2).2≠0 then some (plA E z r.1,(T.ck r.2.2).2) else if 2048<all+r.2.2.length then some (plA E z r.1,2) else zdZ E z (all+r.2.2.length) rs
def szR (E:PE) (z:Nat) (rs:List Rl):Option (Int×Int):=match rs[200]? with
 | some r=>some (plA E z r.1,2)
 | none=>zdZ E z 0 rs
def mkE (l:List Tk):PE:=⟨l,rnP,T.tmB⟩
def fin (E:PE) (z:Nat) (r:Sum (List Rl) (Nat×Int)):Sum (List (ByteArray×List Nd)) (Int×Int):=match r with
 | .inr q=>.inr (plA E z q.1,q.2)
 | .inl rs=>match szR E z rs with
  | some p=>.inr p
  | none=>.inl (rs.map fun r=>r.2)
def psR (s:ByteArray):Sum (List (ByteArray×List Nd)) (Int×Int):=match zbi (zaN s) s with
 | .inr q=>.inr (q.1,q.2)
 | .inl l=>fin (mkE l) s.size (rdN (mkE l))
def alN (E:PE):Sum (List Rl) (Nat×Int):=match exN E 0 with
 | .inr q=>.inr q
 | .inl p=>if p.1<E.l.length then .inr (p.1,60) else .inl [(0,⟨#[]⟩,p.2)]
def paR (s:ByteArray):Sum (List (ByteArray×List Nd)) (Int×Int):=match zbi (zaN s) s with
 | .inr q=>.inr (q.1,q.2)
 | .inl l=>fin (mkE l) s.size (alN (mkE l))
theorem zj6 {E:PE} (h:¬ruB E 0=true):rdN E=alN E:=by
 unfold rdN alN;rw [iN h]
 cases exN E 0 <;> rfl
end Go.Proofs.YtkihfkcmcdiajaaGreatDoor.N
