import Derived.Test.YtkihfkcmcdiajabGreatDoorPo13
set_option maxRecDepth 100000
set_option maxHeartbeats 8000000
namespace Go.Proofs.YtkihfkcmcdiajabGreatDoor
open Go.RowKit
theorem zg4 (s:ByteArray) (i:Nat) (hi:i<=s.size) (hs:s.size<=140737488355328) (h92:(chr s i != 92)=true) (w:World) :
  Cl 68 #[.string s,.int .i64 i] w (rB w (irV i (zak s i))):=by
 have hn92:¬chr s i=92:=bne_iff_ne.1 h92;have hb:=zbi s i;have HE:Hid (zak s i=if chr s i=93∨chr s i=45∨chr s i=37∨zhw (chr s i)=false then none else some ((chr s i).toNat,i+1)):=(by show zak s i=_;unfold zak;rw [iN hn92]);have HX:Hid (∀w,Cl 40 #[.string s,.int .i64 i] w (rU w (.int .i64 (chr s i)))):=fun w=>za0 s i w
 generalize chr s i=c at *;obtain ⟨b0,b1⟩:=hb;by_cases hg:c=93∨c=45∨c=37∨zhw c=false
 ·have HF:Hid (zak s i=none):=(by show zak s i=_;rw [HE.out,iP hg])
  by_cases k1:c<32
  ·clear HE hg hn92
   go_enter Tryz.func68,Tryz.ntmps68;go_wp2_with fail;refine (HX _).mono ?_;rintro e w' ⟨rfl,rfl⟩;go_wp2
   go_ret2
   exact ⟨by rw [HF.out];rfl,bR _ _⟩
  by_cases k2:126<c
  ·clear HE hg hn92
   go_enter Tryz.func68,Tryz.ntmps68;go_wp2_with fail;refine (HX _).mono ?_;rintro e w' ⟨rfl,rfl⟩;go_wp2
   go_ret2
   exact ⟨by rw [HF.out];rfl,bR _ _⟩
  have hp:zhw c=true:=by simp [zhw];omega
  rw [hp] at hg
  cases e93:(c==93)
  ·cases e45:(c==45)
   ·have e37:(c==37)=true:=by simp at hg e93 e45 ⊢;omega
    clear HE hg hn92 hp;go_enter Tryz.func68,Tryz.ntmps68;go_wp2_with fail;refine (HX _).mono ?_;rintro e w' ⟨rfl,rfl⟩;go_wp2
    go_ret2
    exact ⟨by rw [HF.out];rfl,bR _ _⟩
   ·clear HE hg hn92 hp
    go_enter Tryz.func68,Tryz.ntmps68;go_wp2_with fail;refine (HX _).mono ?_;rintro e w' ⟨rfl,rfl⟩;go_wp2
    go_ret2
    exact ⟨by rw [HF.out];rfl,bR _ _⟩
  ·clear HE hg hn92 hp
   go_enter Tryz.func68,Tryz.ntmps68;go_wp2_with fail;refine (HX _).mono ?_;rintro e w' ⟨rfl,rfl⟩;go_wp2
   go_ret2
   exact ⟨by rw [HF.out];rfl,bR _ _⟩
 ·have HF:Hid (zak s i=some (c.toNat,i+1)):=(by show zak s i=_;rw [HE.out,iN hg])
  have hp:zhw c=true:=by cases h:zhw c with
   | true=>rfl
   | false=>exact absurd (.inr (.inr (.inr h))) hg
  have hp2:32<=c/\c<=126:=by simpa [zhw] using hp
  obtain ⟨k1,k2⟩:=hp2;have k1':¬c<32:=by omega
  have k2':¬126<c:=by omega
  have e93:(c==93)=false:=by simp;intro h;exact hg (.inl h)
  have e45:(c==45)=false:=by simp;intro h;exact hg (.inr (.inl h))
  have e37:(c==37)=false:=by simp;intro h;exact hg (.inr (.inr (.inl h)))
  clear HE hg hn92 hp;go_enter Tryz.func68,Tryz.ntmps68;go_wp2_with fail;refine (HX _).mono ?_;rintro e w' ⟨rfl,rfl⟩;go_wp2
  go_ret2
  exact ⟨by rw [HF.out];exact zfk (by omega) (by omega),bR _ _⟩
theorem zkf (s:ByteArray) (i:Nat) (hi:i<s.size) (hs:s.size<=140737488355328) (h92:chr s i=92) (w:World) :
  Cl 68 #[.string s,.int .i64 i] w (rB w (irV i (zak s i))):=by
 have HX:Hid (∀w,Cl 40 #[.string s,.int .i64 i] w (rU w (.int .i64 92))):=fun w=>by have h:=za0 s i w;rw [h92] at h;exact h
 have HY:Hid (∀w,Cl 40 #[.string s,.int .i64 ((i:Int)+1)] w (rU w (.int .i64 (chr s (i+1))))):=fun w=>za0 s (i+1) w
 have hb:=zbi s (i+1);have HE:Hid (zak s i=if chr s (i+1)=110 then some (10,i+2) else if chr s (i+1)=114 then some (13,i+2) else if chr s (i+1)=116 then some (9,i+2) else if chr s (i+1)=120 then zbh s i else if zaQ (chr s (i+1)) then some ((chr s (i+1)).toNat,i+2) else none):=(by show zak s i=_;unfold zak;rw [iP h92];rfl);clear h92;generalize chr s (i+1)=d at *;obtain ⟨b0,b1⟩:=hb;by_cases h110:d=110
 ·have HF:Hid (zak s i=some (10,i+2)):=(by show zak s i=_;rw [HE.out,iP h110])
  have e110:(d==110)=true:=beq_iff_eq.2 h110;clear HE h110;go_enter Tryz.func68,Tryz.ntmps68;go_wp2_with fail;refine (HX _).mono ?_;rintro e w' ⟨rfl,rfl⟩;go_wp2_with fail;refine (HY _).mono ?_;rintro e w' ⟨rfl,rfl⟩;go_wp2
  go_ret2
  exact ⟨by rw [HF.out];exact zfk rfl (by omega),bR _ _⟩
 by_cases h114:d=114
 ·have HF:Hid (zak s i=some (13,i+2)):=(by show zak s i=_;rw [HE.out,iN h110,iP h114])
  have e110:(d==110)=false:=bF h110;have e114:(d==114)=true:=beq_iff_eq.2 h114;clear HE h110 h114;go_enter Tryz.func68,Tryz.ntmps68;go_wp2_with fail;refine (HX _).mono ?_;rintro e w' ⟨rfl,rfl⟩;go_wp2_with fail;refine (HY _).mono ?_;rintro e w' ⟨rfl,rfl⟩;go_wp2
  go_ret2
  exact ⟨by rw [HF.out];exact zfk rfl (by omega),bR _ _⟩
 by_cases h116:d=116
 ·have HF:Hid (zak s i=some (9,i+2)):=(by show zak s i=_;rw [HE.out,iN h110,iN h114,iP h116])
  have e110:(d==110)=false:=bF h110;have e114:(d==114)=false:=bF h114;have e116:(d==116)=true:=beq_iff_eq.2 h116;clear HE h110 h114 h116;go_enter Tryz.func68,Tryz.ntmps68;go_wp2_with fail;refine (HX _).mono ?_;rintro e w' ⟨rfl,rfl⟩;go_wp2_with fail;refine (HY _).mono ?_;rintro e w' ⟨rfl,rfl⟩;go_wp2
  go_ret2
  exact ⟨by rw [HF.out];exact zfk rfl (by omega),bR _ _⟩
 have e110:(d==110)=false:=bF h110;have e114:(d==114)=false:=bF h114;have e116:(d==116)=false:=bF h116;by_cases hd0:d<0
 ·have e120:(d==120)=false:=bF (by omega)
  have HF:Hid (zak s i=none):=(by show zak s i=_;rw [HE.out,iN h110,iN h114,iN h116,iN (by omega),iN (by simp [zaQ];omega)]);have hd1:¬0<=d:=by omega
  clear HE h110 h114 h116;go_enter Tryz.func68,Tryz.ntmps68;go_wp2_with fail;refine (HX _).mono ?_;rintro e w' ⟨rfl,rfl⟩;go_wp2_with fail;refine (HY _).mono ?_;rintro e w' ⟨rfl,rfl⟩;go_wp2
  go_ret2
  exact ⟨by rw [HF.out];rfl,bR _ _⟩
 have hd1:0<=d:=by omega
 cases hsg:zaQ d
 ·by_cases h120:d=120
  ·have HF:Hid (zak s i=zbh s i):=(by show zak s i=_;rw [HE.out,iN h110,iN h114,iN h116,iP h120])
   have e120:(d==120)=true:=beq_iff_eq.2 h120;clear HE h110 h114 h116 h120;by_cases h:i+3<s.size
   ·have h2:i+2<s.size:=by omega
    have hb1:=zbj (s[i+2].toNat:Int);have hb2:=zbj (s[i+3].toNat:Int);have HE:Hid (zbh s i=if 0<=zaI (s[i+2].toNat:Int)/\0<=zaI (s[i+3].toNat:Int) then some ((16 * zaI (s[i+2].toNat:Int)+zaI (s[i+3].toNat:Int)).toNat,i+4) else none):=(by show zbh s i=_;unfold zbh;rw [zam h2,zam h]);have HI:Hid (∀w,Cl 91 #[.int .u8 (s[i+2].toNat:Int)] w (rU w (.int .i64 (zaI (s[i+2].toNat:Int))))):=fun w=>zbO _ w
    have HJ:Hid (∀w,Cl 91 #[.int .u8 (s[i+3].toNat:Int)] w (rU w (.int .i64 (zaI (s[i+3].toNat:Int))))):=fun w=>zbO _ w
    have hi0:(0:Int)<=(i:Int):=by omega
    have hi3:(i:Int)+3<(s.size:Int):=by omega
    have hi2:(i:Int)+2<(s.size:Int):=by omega
    generalize zaI (s[i+2].toNat:Int)=x at *;generalize zaI (s[i+3].toNat:Int)=y at *;by_cases hx:0<=x
    ·by_cases hy:0<=y
     ·have HG:Hid (zak s i=some ((16 * x+y).toNat,i+4)):=(by show zak s i=_;rw [HF.out,HE.out,iP ⟨hx,hy⟩])
      clear HE HF;go_enter Tryz.func68,Tryz.ntmps68;go_wp2_with fail;refine (HX _).mono ?_;rintro e w' ⟨rfl,rfl⟩;go_wp2_with fail;refine (HY _).mono ?_;rintro e w' ⟨rfl,rfl⟩;go_wp2_with fail;refine (zbI _ _).mono ?_;rintro e w' ⟨rfl,rfl⟩;go_wp2_with fail;refine (HI _).mono ?_;rintro e w' ⟨rfl,rfl⟩;go_wp2_with fail;refine (HJ _).mono ?_;rintro e w' ⟨rfl,rfl⟩;go_wp2_with fail;have q1:IntKind.i64.wrap (x * 16)=x * 16:=by rw [wI];omega
      have q2:IntKind.i64.wrap (x * 16+y)=x * 16+y:=by rw [wI];omega
      have x2:=zkc s (i+2) h2;have x3:=zkc s (i+3) h;rw [show ((i+2:Nat):Int)=(i:Int)+2 from by omega] at x2;rw [show ((i+3:Nat):Int)=(i:Int)+3 from by omega] at x3;have z2:(0:Int)<=(i:Int)+2:=by omega
      have z3:(0:Int)<=(i:Int)+3:=by omega
      have v2:IntKind.i64.wrap ((i:Int)+2)=(i:Int)+2:=by rw [wI];omega
      have v3:IntKind.i64.wrap ((i:Int)+3)=(i:Int)+3:=by rw [wI];omega
      have v4:IntKind.i64.wrap ((i:Int)+4)=(i:Int)+4:=by rw [wI];omega
      go_region_held3 (fun _=>True) (trivial) (first | (go_at_call 91;with_reducible refine (HI.out _).mono ?_;rintro e w' ⟨rfl,rfl⟩) | (go_at_call 91;with_reducible refine (HJ.out _).mono ?_;rintro e w' ⟨rfl,rfl⟩))
      all_goals
       go_wp2
       go_ret2
       exact ⟨by rw [HG.out];exact zfk (by omega) (by omega),(bR _ _).drew⟩
     ·have HG:Hid (zak s i=none):=(by show zak s i=_;rw [HF.out,HE.out,iN (fun q=>hy q.2)])
      clear HE HF;go_enter Tryz.func68,Tryz.ntmps68;go_wp2_with fail;refine (HX _).mono ?_;rintro e w' ⟨rfl,rfl⟩;go_wp2_with fail;refine (HY _).mono ?_;rintro e w' ⟨rfl,rfl⟩;go_wp2_with fail;refine (zbI _ _).mono ?_;rintro e w' ⟨rfl,rfl⟩;go_wp2_with fail;refine (HI _).mono ?_;rintro e w' ⟨rfl,rfl⟩;go_wp2_with fail;refine (HJ _).mono ?_;rintro e w' ⟨rfl,rfl⟩;go_wp2
      go_ret2
      exact ⟨by rw [HG.out];rfl,bR _ _⟩
    ·have HG:Hid (zak s i=none):=(by show zak s i=_;rw [HF.out,HE.out,iN (fun q=>hx q.1)])
     clear HE HF;go_enter Tryz.func68,Tryz.ntmps68;go_wp2_with fail;refine (HX _).mono ?_;rintro e w' ⟨rfl,rfl⟩;go_wp2_with fail;refine (HY _).mono ?_;rintro e w' ⟨rfl,rfl⟩;go_wp2_with fail;refine (zbI _ _).mono ?_;rintro e w' ⟨rfl,rfl⟩;go_wp2_with fail;refine (HI _).mono ?_;rintro e w' ⟨rfl,rfl⟩;go_wp2
     go_ret2
     exact ⟨by rw [HG.out];rfl,bR _ _⟩
   ·have HG:=(show Hid (zak s i=none) from (by
     show zak s i=_
     rw [HF.out];unfold zbh;rw [zau h,iN (by rintro ⟨_,q⟩;simp [zaI] at q)]))
    have hi3:¬(i:Int)+3<(s.size:Int):=by omega
    clear HF;go_enter Tryz.func68,Tryz.ntmps68;go_wp2_with fail;refine (HX _).mono ?_;rintro e w' ⟨rfl,rfl⟩;go_wp2_with fail;refine (HY _).mono ?_;rintro e w' ⟨rfl,rfl⟩;go_wp2_with fail;refine (zbI _ _).mono ?_;rintro e w' ⟨rfl,rfl⟩;go_wp2
    go_ret2
    exact ⟨by rw [HG.out];rfl,bR _ _⟩
  ·have e120:(d==120)=false:=bF h120
   have HF:Hid (zak s i=none):=(by show zak s i=_;rw [HE.out,iN h110,iN h114,iN h116,iN h120,iN (by rw [hsg];simp)]);clear HE h110 h114 h116 h120;go_enter Tryz.func68,Tryz.ntmps68;go_wp2_with fail;refine (HX _).mono ?_;rintro e w' ⟨rfl,rfl⟩;go_wp2_with fail;refine (HY _).mono ?_;rintro e w' ⟨rfl,rfl⟩;go_wp2_with fail;refine (zbI _ _).mono ?_;rintro e w' ⟨rfl,rfl⟩;go_wp2
   go_ret2
   exact ⟨by rw [HF.out];rfl,bR _ _⟩
 ·have h120:¬d=120:=fun h=>by subst h;simp [zaQ] at hsg
  have HF:Hid (zak s i=some (d.toNat,i+2)):=(by show zak s i=_;rw [HE.out,iN h110,iN h114,iN h116,iN h120,iP hsg]);clear HE h110 h114 h116 h120;go_enter Tryz.func68,Tryz.ntmps68;go_wp2_with fail;refine (HX _).mono ?_;rintro e w' ⟨rfl,rfl⟩;go_wp2_with fail;refine (HY _).mono ?_;rintro e w' ⟨rfl,rfl⟩;go_wp2_with fail;refine (zbI _ _).mono ?_;rintro e w' ⟨rfl,rfl⟩;go_wp2
  go_ret2
  exact ⟨by rw [HF.out];exact zfk (by omega) (by omega),bR _ _⟩
theorem zkg (s:ByteArray) (i:Nat) (hi:i<=s.size) (hs:s.size<=140737488355328) (w:World) :
  Cl 68 #[.string s,.int .i64 i] w (rB w (irV i (zak s i))):=by
 by_cases h:chr s i=92
 ·exact zkf s i (zaB (by rw [h];omega)) hs h w
 ·exact zg4 s i hi hs (bne_iff_ne.2 h) w
theorem zkh (s:ByteArray) (i:Int) (hs:s.size<=140737488355328) (w:World) :
  Cl 48 #[.string s,.int .i64 i] w (rB w (rrV (zap s i))):=by
 have HI:zoE:=fun s i hi hs w=>zkg s i hi hs w
 by_cases h:i<0∨(s.size:Int)<i
 ·exact zke s i h w
 ·obtain ⟨n,rfl⟩:∃n:Nat,i=n:=⟨i.toNat,by omega⟩
  have hn:n<=s.size:=by omega
  by_cases h1:chr s n=91
  ·have hlt:n<s.size:=zaB (by rw [h1];omega)
   cases h2:(chr s (n+1)==94)
   ·have e:zap s n=zfQ (zag s (s.size+1) 0#256 (n+1)):=by
     unfold zap;rw [iN h,Int.toNat_natCast,iP h1,iN (beq_eq_false_iff_ne.1 h2)]
    rw [e];exact zg3 HI s n hlt hs h1 h2 w
   ·have hlt2:n+1<s.size:=zaB (by rw [beq_iff_eq.1 h2];omega)
    have e:zap s n=zcU (zag s (s.size+1) 0#256 (n+2)):=by
     unfold zap;rw [iN h,Int.toNat_natCast,iP h1,iP (beq_iff_eq.1 h2)]
    rw [e];exact zix HI s n hlt2 hs h1 h2 w
  ·exact ziw s n hn (bne_iff_ne.2 h1) w
theorem zg5 {s:ByteArray} {i a:Nat} {c:Int} (h:zab s i=.inr (a,c)):c≠0:=by
 unfold zab at h
 split at h
 ·unfold zaW at h
  split at h
  ·cases h
  ·cases h;decide
 ·split at h
  ·cases h;decide
  ·split at h
   ·split at h
    ·cases h;decide
    ·split at h
     ·cases h;decide
     ·cases h
   ·cases h
theorem zd3 {s:ByteArray}:∀(f:Nat) (x:BitVec 256) (i a:Nat) (c:Int),zag s f x i=.inr (a,c)->c≠0:=by
 intro f
 induction f with
 | zero=>intro x i a c h;rw [zag] at h;cases h;decide
 | succ f ih =>
  intro x i a c h;rw [zag] at h
  split at h
  ·cases h
  ·split at h
   ·next a2 c2 hm=>cases h;exact zg5 hm
   ·exact ih _ _ _ _ h
theorem zeK {s:ByteArray} {i:Int} {a:Nat} {c:Int} (h:zap s i=.inr (a,c)):c≠0:=by
 unfold zap at h
 split at h
 ·cases h;decide
 ·split at h
  ·split at h
   ·cases hm:zag s (s.size+1) 0#256 (i.toNat+2) with
    | inl p=>rw [hm] at h;cases h
    | inr q=>obtain ⟨a2,c2⟩:=q;rw [hm] at h;cases h;exact zd3 _ _ _ _ _ hm
   ·cases hm:zag s (s.size+1) 0#256 (i.toNat+1) with
    | inl p=>rw [hm] at h;cases h
    | inr q=>obtain ⟨a2,c2⟩:=q;rw [hm] at h;cases h;exact zd3 _ _ _ _ _ hm
  ·cases h;decide
def clT (s:ByteArray) (b:Nat):Rd (BitVec 256×Nat)->Sum Tk (Nat×Int)
 | .inl p=>.inl ⟨3,0,b,p.2,⟨#[]⟩,wd p.1 0,wd p.1 1,wd p.1 2,wd p.1 3⟩
 | .inr q=>if q.2=6/\q.1=s.size then .inr (b,52) else .inr q
def zbG (sg:Nat->Sum Tk (Nat×Int)) (s:ByteArray) (b:Nat):Sum Tk (Nat×Int) :=
 if hdB (chr s b)=true then (if 32<spN nmB s b - b then .inr (b,2) else .inl ⟨1,0,b,spN nmB s b,s.extract b (spN nmB s b),0,0,0,0⟩)
 else if dgB (chr s b)=true then (match zbR s b 999999 with
  | .inr e=>.inr (b,e)
  | .inl n=>.inl ⟨4,n,b,spN dgB s b,⟨#[]⟩,0,0,0,0⟩)
 else if chr s b=39∨chr s b=34 then zbY s b
 else if chr s b=91 then clT s b (zap s b)
 else if chr s b=37 then zdE s b
 else if chr s b=94 then zea s b
 else if chr s b=123/\chr s (b+1)=58 then ze8 s b
 else sg b
theorem one_of (sg:Nat->Sum Tk (Nat×Int)) (s:ByteArray) (b:Nat) (hs:s.size<=140737488355000) (hb:b<s.size)
  (HSg:∀w,Cl 52 #[.string s,.int .i64 b] w (rB w (zct (sg b)))) (w:World) :
  Cl 28 #[.string s,.int .i64 b] w (rB w (zct (zbG sg s b))):=by
 have HWr:Hid (∀i e w,Cl 43 #[.int .i64 i,.int .i64 e] w fun e' w'=>e'=.returned (.tuple #[tkG tk0,.int .i64 i,.int .i64 e])/\bW w w'):=fun i e w=>zbP i e w
 have HA:Hid (∀w,Cl 40 #[.string s,.int .i64 (b:Int)] w (rU w (.int .i64 (chr s b)))):=fun w=>za0 s b w
 have HA1:Hid (∀w,Cl 40 #[.string s,.int .i64 ((b:Int)+1)] w (rU w (.int .i64 (chr s (b+1))))):=fun w=>za0 s (b+1) w
 have HH:Hid (∀w,Cl 41 #[.int .i64 (chr s b)] w (rU w (.bool (hdB (chr s b))))):=fun w=>zfy _ w
 have HD:Hid (∀w,Cl 44 #[.int .i64 (chr s b)] w (rU w (.bool (dgB (chr s b))))):=fun w=>zet _ w
 have HX:Hid (TX (w.alloc (tkO tk0)) w.heap.size tk0):=TX.new w tk0;have HB:Hid (bW w (w.alloc (tkO tk0))):=zaa w _;have HS:Hid (∀w,Cl 52 #[.string s,.int .i64 b] w (rB w (zct (sg b)))):=HSg;clear HSg
 cases hh:hdB (chr s b) with
 | true =>
  have HR:Hid (∀w,Cl 42 #[.string s,.int .i64 (b:Int)] w (rU w (.int .i64 (spN nmB s b)))):=fun w=>zjf s b (by omega) (by omega) w
  have hge:=zbe nmB s (by decide) b;have hle:=zbF nmB s (by decide) b (by omega);have HU:Hid (zbG sg s b=if 32<spN nmB s b - b then .inr (b,2) else .inl ⟨1,0,b,spN nmB s b,s.extract b (spN nmB s b),0,0,0,0⟩):=by show zbG sg s b=_;unfold zbG;rw [iP hh]
  generalize spN nmB s b=n at *;obtain ⟨m,hm⟩:∃m,m=n - b:=⟨_,rfl⟩;have u1:IntKind.i64.wrap ((n:Int) - (b:Int))=(m:Int):=by rw [wI];omega
  have z0:(0:Int)<=(b:Int):=by omega
  have z1:(b:Int)<=(n:Int):=by omega
  have z2:(n:Int)<=(s.size:Int):=by omega
  rw [<-hm] at HU;clear hm;by_cases h32:32<m
  ·have HE:Hid (zbG sg s b=.inr (b,2)):=by show zbG sg s b=_;rw [HU.out,iP h32]
   have t2:decide (32<m)=true:=decide_eq_true h32;clear HU HS HD HA1;go_enter Tryz.func28,Tryz.ntmps28;go_wp2_with fail;refine (HA _).mono ?_;rintro e w2 ⟨rfl,rfl⟩;go_wp2_with fail;refine (HH _).mono ?_;rintro e w2 ⟨rfl,rfl⟩;rw [hh];clear hh;go_wp2_with fail;refine (HR _).mono ?_;rintro e w2 ⟨rfl,rfl⟩;clear HR HH HA;go_wp2_with fail;refine (HWr _ _ _).mono ?_;rintro e w3 ⟨rfl,b3⟩;have HX3:=hO (HX.below b3);have HB3:Hid (bW w w3):=HB.trans (b3.mono HB.size);clear b3;obtain ⟨c0,c1,c2,c3,c4,c5,c6,c7,c8⟩:=HX3.cells;obtain ⟨f0,f1',f2',f3,f4,f5,f6,f7,f8⟩:=HX3.fz;go_wp2_with fail;exact zai rfl rfl rfl rfl rfl (zar HX3 tk0) ⟨by rw [HE.out];rfl,zac HB3 (nL _) tk0⟩
  ·have HE:Hid (zbG sg s b=.inl ⟨1,0,b,n,s.extract b n,0,0,0,0⟩):=by show zbG sg s b=_;rw [HU.out,iN h32]
   have t2:decide (32<m)=false:=dF h32;clear HU HS HD HA1 HWr;go_enter Tryz.func28,Tryz.ntmps28;go_wp2_with fail;refine (HA _).mono ?_;rintro e w2 ⟨rfl,rfl⟩;go_wp2_with fail;refine (HH _).mono ?_;rintro e w2 ⟨rfl,rfl⟩;rw [hh];clear hh;go_wp2_with fail;refine (HR _).mono ?_;rintro e w2 ⟨rfl,rfl⟩;clear HR HH HA;go_wp2_with fail;exact zai (t:=⟨1,0,b,n,s.extract b n,0,0,0,0⟩) rfl rfl rfl rfl rfl (TX.new w ⟨1,0,b,n,s.extract b n,0,0,0,0⟩) ⟨by rw [HE.out];rfl,zaa w _⟩
 | false =>
  have nh:¬hdB (chr s b)=true:=by rw [hh];simp
  cases hd:dgB (chr s b) with
  | true =>
   have HU:Hid (zbG sg s b=match zbR s b 999999 with
    | .inr e=>.inr (b,e)
    | .inl n=>.inl ⟨4,n,b,spN dgB s b,⟨#[]⟩,0,0,0,0⟩):=by show zbG sg s b=_;unfold zbG;rw [iN nh,iP hd]
   cases hq:zbR s b 999999 with
   | inr e0 =>
    have HE:Hid (zbG sg s b=.inr (b,e0)):=by show zbG sg s b=_;rw [HU.out,hq]
    have hne:e0≠0:=zfz hq;have t9:(e0 != 0)=true:=by rw [bne,bF hne];rfl
    have HNu:=(show Hid (∀w,Cl 45 #[.string s,.int .i64 b,.int .i64 b,.int .i64 999999] w (rU w (.tuple #[.int .i64 0,.int .i64 e0]))) from fun w=>by
     have h:=zbs s b b 999999 (by omega) (by omega) w;rw [hq] at h;exact h)
    clear hq hne HU HS HA1 nh;go_enter Tryz.func28,Tryz.ntmps28;go_wp2_with fail;refine (HA _).mono ?_;rintro e w2 ⟨rfl,rfl⟩;go_wp2_with fail;refine (HH _).mono ?_;rintro e w2 ⟨rfl,rfl⟩;rw [hh];go_wp2_with fail;refine (HD _).mono ?_;rintro e w2 ⟨rfl,rfl⟩;rw [hd];clear hh hd;go_wp2_with fail;refine (HNu _).mono ?_;rintro e w2 ⟨rfl,rfl⟩;clear HNu HH HA HD;go_wp2_with fail;refine (HWr _ _ _).mono ?_;rintro e w3 ⟨rfl,b3⟩;have HX3:=hO (HX.below b3);have HB3:Hid (bW w w3):=HB.trans (b3.mono HB.size);clear b3;obtain ⟨c0,c1,c2,c3,c4,c5,c6,c7,c8⟩:=HX3.cells;obtain ⟨f0,f1',f2',f3,f4,f5,f6,f7,f8⟩:=HX3.fz;go_wp2_with fail;exact zai rfl rfl rfl rfl rfl (zar HX3 tk0) ⟨by rw [HE.out];rfl,zac HB3 (nL _) tk0⟩
   | inl n0 =>
    have HE:Hid (zbG sg s b=.inl ⟨4,n0,b,spN dgB s b,⟨#[]⟩,0,0,0,0⟩):=by show zbG sg s b=_;rw [HU.out,hq]
    have HNu:=(show Hid (∀w,Cl 45 #[.string s,.int .i64 b,.int .i64 b,.int .i64 999999] w (rU w (.tuple #[.int .i64 n0,.int .i64 0]))) from fun w=>by
     have h:=zbs s b b 999999 (by omega) (by omega) w;rw [hq] at h;exact h)
    have HDg:Hid (∀w,Cl 46 #[.string s,.int .i64 (b:Int)] w (rU w (.int .i64 (spN dgB s b)))):=fun w=>zcj s b (by omega) (by omega) w
    clear hq HU HS HA1 nh HWr;go_enter Tryz.func28,Tryz.ntmps28;go_wp2_with fail;refine (HA _).mono ?_;rintro e w2 ⟨rfl,rfl⟩;go_wp2_with fail;refine (HH _).mono ?_;rintro e w2 ⟨rfl,rfl⟩;rw [hh];go_wp2_with fail;refine (HD _).mono ?_;rintro e w2 ⟨rfl,rfl⟩;rw [hd];clear hh hd;go_wp2_with fail;refine (HNu _).mono ?_;rintro e w2 ⟨rfl,rfl⟩;clear HNu HH HA HD;go_wp2_with fail;refine (HDg _).mono ?_;rintro e w2 ⟨rfl,rfl⟩;clear HDg;go_wp2_with fail;exact zai (t:=⟨4,n0,b,spN dgB s b,⟨#[]⟩,0,0,0,0⟩) rfl rfl rfl rfl rfl (TX.new w ⟨4,n0,b,spN dgB s b,⟨#[]⟩,0,0,0,0⟩) ⟨by rw [HE.out];rfl,zaa w _⟩
  | false =>
   have nd:¬dgB (chr s b)=true:=by rw [hd];simp
   by_cases hq:chr s b=39∨chr s b=34
   ·by_cases h39:chr s b=39
    ·have t1:(chr s b==39)=true:=by rw [h39];rfl
     have HU:Hid (zbG sg s b=zbY s b):=by show zbG sg s b=_;unfold zbG;rw [iN nh,iN nd,iP hq]
     have HP:Hid (∀w,Cl 47 #[.string s,.int .i64 b] w (rB w (zct (zbY s b)))):=fun w=>zeu s b hs hb w
     clear hq h39 nh nd
     cases hp:zbY s b with
     | inl t =>
      rw [hp] at HU HP;go_enter Tryz.func28,Tryz.ntmps28;go_wp2_with fail;refine (HA _).mono ?_;rintro e w2 ⟨rfl,rfl⟩;go_wp2_with fail;refine (HH _).mono ?_;rintro e w2 ⟨rfl,rfl⟩;rw [hh];go_wp2_with fail;refine (HD _).mono ?_;rintro e w2 ⟨rfl,rfl⟩;rw [hd];clear hh hd;go_wp2_with fail;refine (HP _).mono ?_;rintro e w3 ⟨rfl,b3⟩;have HX3:=hO (HX.below b3);have HB3:Hid (bW w w3):=HB.trans (b3.mono HB.size);clear b3;obtain ⟨c0,c1,c2,c3,c4,c5,c6,c7,c8⟩:=HX3.cells;obtain ⟨f0,f1',f2',f3,f4,f5,f6,f7,f8⟩:=HX3.fz;unfold zct;go_wp2_with fail;exact zai rfl rfl rfl rfl rfl (zar HX3 t) ⟨by rw [HU.out];rfl,zac HB3 (nL _) t⟩
     | inr q =>
      rw [hp] at HU HP;go_enter Tryz.func28,Tryz.ntmps28;go_wp2_with fail;refine (HA _).mono ?_;rintro e w2 ⟨rfl,rfl⟩;go_wp2_with fail;refine (HH _).mono ?_;rintro e w2 ⟨rfl,rfl⟩;rw [hh];go_wp2_with fail;refine (HD _).mono ?_;rintro e w2 ⟨rfl,rfl⟩;rw [hd];clear hh hd;go_wp2_with fail;refine (HP _).mono ?_;rintro e w3 ⟨rfl,b3⟩;have HX3:=hO (HX.below b3);have HB3:Hid (bW w w3):=HB.trans (b3.mono HB.size);clear b3;obtain ⟨c0,c1,c2,c3,c4,c5,c6,c7,c8⟩:=HX3.cells;obtain ⟨f0,f1',f2',f3,f4,f5,f6,f7,f8⟩:=HX3.fz;unfold zct;go_wp2_with fail;exact zai rfl rfl rfl rfl rfl (zar HX3 tk0) ⟨by rw [HU.out];rfl,zac HB3 (nL _) tk0⟩
    ·have t1:(chr s b==39)=false:=bF h39
     have t2:(chr s b==34)=true:=beq_iff_eq.2 (hq.resolve_left h39);have HU:Hid (zbG sg s b=zbY s b):=by show zbG sg s b=_;unfold zbG;rw [iN nh,iN nd,iP hq]
     have HP:Hid (∀w,Cl 47 #[.string s,.int .i64 b] w (rB w (zct (zbY s b)))):=fun w=>zeu s b hs hb w
     clear hq h39 nh nd
     cases hp:zbY s b with
     | inl t =>
      rw [hp] at HU HP;go_enter Tryz.func28,Tryz.ntmps28;go_wp2_with fail;refine (HA _).mono ?_;rintro e w2 ⟨rfl,rfl⟩;go_wp2_with fail;refine (HH _).mono ?_;rintro e w2 ⟨rfl,rfl⟩;rw [hh];go_wp2_with fail;refine (HD _).mono ?_;rintro e w2 ⟨rfl,rfl⟩;rw [hd];clear hh hd;go_wp2_with fail;refine (HP _).mono ?_;rintro e w3 ⟨rfl,b3⟩;have HX3:=hO (HX.below b3);have HB3:Hid (bW w w3):=HB.trans (b3.mono HB.size);clear b3;obtain ⟨c0,c1,c2,c3,c4,c5,c6,c7,c8⟩:=HX3.cells;obtain ⟨f0,f1',f2',f3,f4,f5,f6,f7,f8⟩:=HX3.fz;unfold zct;go_wp2_with fail;exact zai rfl rfl rfl rfl rfl (zar HX3 t) ⟨by rw [HU.out];rfl,zac HB3 (nL _) t⟩
     | inr q =>
      rw [hp] at HU HP;go_enter Tryz.func28,Tryz.ntmps28;go_wp2_with fail;refine (HA _).mono ?_;rintro e w2 ⟨rfl,rfl⟩;go_wp2_with fail;refine (HH _).mono ?_;rintro e w2 ⟨rfl,rfl⟩;rw [hh];go_wp2_with fail;refine (HD _).mono ?_;rintro e w2 ⟨rfl,rfl⟩;rw [hd];clear hh hd;go_wp2_with fail;refine (HP _).mono ?_;rintro e w3 ⟨rfl,b3⟩;have HX3:=hO (HX.below b3);have HB3:Hid (bW w w3):=HB.trans (b3.mono HB.size);clear b3;obtain ⟨c0,c1,c2,c3,c4,c5,c6,c7,c8⟩:=HX3.cells;obtain ⟨f0,f1',f2',f3,f4,f5,f6,f7,f8⟩:=HX3.fz;unfold zct;go_wp2_with fail;exact zai rfl rfl rfl rfl rfl (zar HX3 tk0) ⟨by rw [HU.out];rfl,zac HB3 (nL _) tk0⟩
   have t1:(chr s b==39)=false:=bF (by omega);have t2:(chr s b==34)=false:=bF (by omega);by_cases h91:chr s b=91
   ·have t3:(chr s b==91)=true:=by rw [h91];rfl
    have HU:Hid (zbG sg s b=clT s b (zap s b)):=by show zbG sg s b=_;unfold zbG;rw [iN nh,iN nd,iN hq,iP h91]
    have HP:Hid (∀w,Cl 48 #[.string s,.int .i64 b] w (rB w (rrV (zap s b)))):=fun w=>zkh s b (by omega) w
    clear hq h91 nh nd HS
    cases hp:zap s b with
    | inl p =>
     obtain ⟨x,en⟩:=p;rw [hp] at HU HP;have HE:Hid (zbG sg s b=.inl ⟨3,0,b,en,⟨#[]⟩,wd x 0,wd x 1,wd x 2,wd x 3⟩):=HU.out;clear hp HU HWr;go_enter Tryz.func28,Tryz.ntmps28;go_wp2_with fail;refine (HA _).mono ?_;rintro e w2 ⟨rfl,rfl⟩;go_wp2_with fail;refine (HH _).mono ?_;rintro e w2 ⟨rfl,rfl⟩;rw [hh];go_wp2_with fail;refine (HD _).mono ?_;rintro e w2 ⟨rfl,rfl⟩;rw [hd];clear hh hd HH HD HA HA1;go_wp2_with fail;refine (HP _).mono ?_;rintro e w3 ⟨rfl,b3⟩;have HX3:=hO (HX.below b3);have HB3:Hid (bW w w3):=HB.trans (b3.mono HB.size);clear b3;unfold rrV;have hlt3:=HX3.lt;have hle3:w.heap.size≠w3.heap.size:=by omega
     obtain ⟨c0,c1,c2,c3,c4,c5,c6,c7,c8⟩:=HX3.cells;obtain ⟨f0,f1',f2',f3,f4,f5,f6,f7,f8⟩:=HX3.fz;go_wp2_with fail;exact zai (t:=⟨3,0,b,en,⟨#[]⟩,wd x 0,wd x 1,wd x 2,wd x 3⟩) (p:=0) (e:=0) rfl rfl rfl rfl rfl ((zar HX3.out ⟨3,0,b,en,⟨#[]⟩,wd x 0,wd x 1,wd x 2,wd x 3⟩).below (zaa _ _)) ⟨by rw [HE.out];rfl,(zac HB3 (nL _) ⟨3,0,b,en,⟨#[]⟩,wd x 0,wd x 1,wd x 2,wd x 3⟩).alloc (zac HB3 (nL _) ⟨3,0,b,en,⟨#[]⟩,wd x 0,wd x 1,wd x 2,wd x 3⟩).size _⟩
    | inr q =>
     obtain ⟨pl,ec⟩:=q;rw [hp] at HU HP;have hec:ec≠0:=zeK hp;by_cases hq6:ec=6/\pl=s.size
     ·have HE:Hid (zbG sg s b=.inr (b,52)):=by show zbG sg s b=_;rw [HU.out];show (if ec=6/\pl=s.size then _ else _)=_;rw [iP hq6]
      have v1:(ec==6)=true:=by rw [hq6.1];rfl
      have v2:((pl:Int)==(s.size:Int))=true:=by rw [hq6.2];simp
      clear hp HU hq6;go_enter Tryz.func28,Tryz.ntmps28;go_wp2_with fail;refine (HA _).mono ?_;rintro e w2 ⟨rfl,rfl⟩;go_wp2_with fail;refine (HH _).mono ?_;rintro e w2 ⟨rfl,rfl⟩;rw [hh];go_wp2_with fail;refine (HD _).mono ?_;rintro e w2 ⟨rfl,rfl⟩;rw [hd];clear hh hd HH HD HA HA1;go_wp2_with fail;refine (HP _).mono ?_;rintro e w3 ⟨rfl,b3⟩;have HX3:=hO (HX.below b3);have HB3:Hid (bW w w3):=HB.trans (b3.mono HB.size);clear b3;unfold rrV;go_wp2_with fail;refine (HWr _ _ _).mono ?_;rintro e w4 ⟨rfl,b4⟩;have HX4:Hid (TX w4 w.heap.size tk0):=HX3.below ((zaa _ _).trans (b4.mono (zaa _ _).size));have HB4:Hid (bW w w4):=HB3.trans (((zaa _ _).trans (b4.mono (zaa _ _).size)).mono HB3.size);clear b4;obtain ⟨c0,c1,c2,c3,c4,c5,c6,c7,c8⟩:=HX4.cells;obtain ⟨f0,f1',f2',f3,f4,f5,f6,f7,f8⟩:=HX4.fz;go_wp2_with fail;exact zai rfl rfl rfl rfl rfl (zar HX4 tk0) ⟨by rw [HE.out];rfl,zac HB4 (nL _) tk0⟩
     ·have HE:Hid (zbG sg s b=.inr (pl,ec)):=by show zbG sg s b=_;rw [HU.out];show (if ec=6/\pl=s.size then _ else _)=_;rw [iN hq6]
      have v3:(ec != 0)=true:=by rw [bne,bF hec];rfl
      by_cases h6:ec=6
      ·have v1:(ec==6)=true:=by rw [h6];rfl
       have v2:((pl:Int)==(s.size:Int))=false:=by rw [beq_eq_false_iff_ne];intro q;exact hq6 ⟨h6,by omega⟩
       clear hp HU hq6 h6 hec;go_enter Tryz.func28,Tryz.ntmps28;go_wp2_with fail;refine (HA _).mono ?_;rintro e w2 ⟨rfl,rfl⟩;go_wp2_with fail;refine (HH _).mono ?_;rintro e w2 ⟨rfl,rfl⟩;rw [hh];go_wp2_with fail;refine (HD _).mono ?_;rintro e w2 ⟨rfl,rfl⟩;rw [hd];clear hh hd HH HD HA HA1;go_wp2_with fail;refine (HP _).mono ?_;rintro e w3 ⟨rfl,b3⟩;have HX3:=hO (HX.below b3);have HB3:Hid (bW w w3):=HB.trans (b3.mono HB.size);clear b3;unfold rrV;go_wp2_with fail;refine (HWr _ _ _).mono ?_;rintro e w4 ⟨rfl,b4⟩;have HX4:Hid (TX w4 w.heap.size tk0):=HX3.below ((zaa _ _).trans (b4.mono (zaa _ _).size));have HB4:Hid (bW w w4):=HB3.trans (((zaa _ _).trans (b4.mono (zaa _ _).size)).mono HB3.size);clear b4;obtain ⟨c0,c1,c2,c3,c4,c5,c6,c7,c8⟩:=HX4.cells;obtain ⟨f0,f1',f2',f3,f4,f5,f6,f7,f8⟩:=HX4.fz;go_wp2_with fail;exact zai rfl rfl rfl rfl rfl (zar HX4 tk0) ⟨by rw [HE.out];rfl,zac HB4 (nL _) tk0⟩
      ·have v1:(ec==6)=false:=bF h6
       clear hp HU hq6 h6 hec;go_enter Tryz.func28,Tryz.ntmps28;go_wp2_with fail;refine (HA _).mono ?_;rintro e w2 ⟨rfl,rfl⟩;go_wp2_with fail;refine (HH _).mono ?_;rintro e w2 ⟨rfl,rfl⟩;rw [hh];go_wp2_with fail;refine (HD _).mono ?_;rintro e w2 ⟨rfl,rfl⟩;rw [hd];clear hh hd HH HD HA HA1;go_wp2_with fail;refine (HP _).mono ?_;rintro e w3 ⟨rfl,b3⟩;have HX3:=hO (HX.below b3);have HB3:Hid (bW w w3):=HB.trans (b3.mono HB.size);clear b3;unfold rrV;go_wp2_with fail;refine (HWr _ _ _).mono ?_;rintro e w4 ⟨rfl,b4⟩;have HX4:Hid (TX w4 w.heap.size tk0):=HX3.below ((zaa _ _).trans (b4.mono (zaa _ _).size));have HB4:Hid (bW w w4):=HB3.trans (((zaa _ _).trans (b4.mono (zaa _ _).size)).mono HB3.size);clear b4;obtain ⟨c0,c1,c2,c3,c4,c5,c6,c7,c8⟩:=HX4.cells;obtain ⟨f0,f1',f2',f3,f4,f5,f6,f7,f8⟩:=HX4.fz;go_wp2_with fail;exact zai rfl rfl rfl rfl rfl (zar HX4 tk0) ⟨by rw [HE.out];rfl,zac HB4 (nL _) tk0⟩
   have t3:(chr s b==91)=false:=bF h91;by_cases h37:chr s b=37
   ·have t4:(chr s b==37)=true:=by rw [h37];rfl
    have HU:Hid (zbG sg s b=zdE s b):=by show zbG sg s b=_;unfold zbG;rw [iN nh,iN nd,iN hq,iN h91,iP h37]
    have HP:Hid (∀w,Cl 49 #[.string s,.int .i64 b] w (rB w (zct (zdE s b)))):=fun w=>zgZ s b hs hb w
    clear hq h91 h37 nh nd
    cases hp:zdE s b with
    | inl t =>
     rw [hp] at HU HP;go_enter Tryz.func28,Tryz.ntmps28;go_wp2_with fail;refine (HA _).mono ?_;rintro e w2 ⟨rfl,rfl⟩;go_wp2_with fail;refine (HH _).mono ?_;rintro e w2 ⟨rfl,rfl⟩;rw [hh];go_wp2_with fail;refine (HD _).mono ?_;rintro e w2 ⟨rfl,rfl⟩;rw [hd];clear hh hd;go_wp2_with fail;refine (HP _).mono ?_;rintro e w3 ⟨rfl,b3⟩;have HX3:=hO (HX.below b3);have HB3:Hid (bW w w3):=HB.trans (b3.mono HB.size);clear b3;obtain ⟨c0,c1,c2,c3,c4,c5,c6,c7,c8⟩:=HX3.cells;obtain ⟨f0,f1',f2',f3,f4,f5,f6,f7,f8⟩:=HX3.fz;unfold zct;go_wp2_with fail;exact zai rfl rfl rfl rfl rfl (zar HX3 t) ⟨by rw [HU.out];rfl,zac HB3 (nL _) t⟩
    | inr q =>
     rw [hp] at HU HP;go_enter Tryz.func28,Tryz.ntmps28;go_wp2_with fail;refine (HA _).mono ?_;rintro e w2 ⟨rfl,rfl⟩;go_wp2_with fail;refine (HH _).mono ?_;rintro e w2 ⟨rfl,rfl⟩;rw [hh];go_wp2_with fail;refine (HD _).mono ?_;rintro e w2 ⟨rfl,rfl⟩;rw [hd];clear hh hd;go_wp2_with fail;refine (HP _).mono ?_;rintro e w3 ⟨rfl,b3⟩;have HX3:=hO (HX.below b3);have HB3:Hid (bW w w3):=HB.trans (b3.mono HB.size);clear b3;obtain ⟨c0,c1,c2,c3,c4,c5,c6,c7,c8⟩:=HX3.cells;obtain ⟨f0,f1',f2',f3,f4,f5,f6,f7,f8⟩:=HX3.fz;unfold zct;go_wp2_with fail;exact zai rfl rfl rfl rfl rfl (zar HX3 tk0) ⟨by rw [HU.out];rfl,zac HB3 (nL _) tk0⟩
   have t4:(chr s b==37)=false:=bF h37;by_cases h94:chr s b=94
   ·have t5:(chr s b==94)=true:=by rw [h94];rfl
    have HU:Hid (zbG sg s b=zea s b):=by show zbG sg s b=_;unfold zbG;rw [iN nh,iN nd,iN hq,iN h91,iN h37,iP h94]
    have HP:Hid (∀w,Cl 50 #[.string s,.int .i64 b] w (rB w (zct (zea s b)))):=fun w=>zj8 s b (by omega) hb w
    clear hq h91 h37 h94 nh nd
    cases hp:zea s b with
    | inl t =>
     rw [hp] at HU HP;go_enter Tryz.func28,Tryz.ntmps28;go_wp2_with fail;refine (HA _).mono ?_;rintro e w2 ⟨rfl,rfl⟩;go_wp2_with fail;refine (HH _).mono ?_;rintro e w2 ⟨rfl,rfl⟩;rw [hh];go_wp2_with fail;refine (HD _).mono ?_;rintro e w2 ⟨rfl,rfl⟩;rw [hd];clear hh hd;go_wp2_with fail;refine (HP _).mono ?_;rintro e w3 ⟨rfl,b3⟩;have HX3:=hO (HX.below b3);have HB3:Hid (bW w w3):=HB.trans (b3.mono HB.size);clear b3;obtain ⟨c0,c1,c2,c3,c4,c5,c6,c7,c8⟩:=HX3.cells;obtain ⟨f0,f1',f2',f3,f4,f5,f6,f7,f8⟩:=HX3.fz;unfold zct;go_wp2_with fail;exact zai rfl rfl rfl rfl rfl (zar HX3 t) ⟨by rw [HU.out];rfl,zac HB3 (nL _) t⟩
    | inr q =>
     rw [hp] at HU HP;go_enter Tryz.func28,Tryz.ntmps28;go_wp2_with fail;refine (HA _).mono ?_;rintro e w2 ⟨rfl,rfl⟩;go_wp2_with fail;refine (HH _).mono ?_;rintro e w2 ⟨rfl,rfl⟩;rw [hh];go_wp2_with fail;refine (HD _).mono ?_;rintro e w2 ⟨rfl,rfl⟩;rw [hd];clear hh hd;go_wp2_with fail;refine (HP _).mono ?_;rintro e w3 ⟨rfl,b3⟩;have HX3:=hO (HX.below b3);have HB3:Hid (bW w w3):=HB.trans (b3.mono HB.size);clear b3;obtain ⟨c0,c1,c2,c3,c4,c5,c6,c7,c8⟩:=HX3.cells;obtain ⟨f0,f1',f2',f3,f4,f5,f6,f7,f8⟩:=HX3.fz;unfold zct;go_wp2_with fail;exact zai rfl rfl rfl rfl rfl (zar HX3 tk0) ⟨by rw [HU.out];rfl,zac HB3 (nL _) tk0⟩
   have t5:(chr s b==94)=false:=bF h94;by_cases hg:chr s b=123/\chr s (b+1)=58
   ·have t6:(chr s b==123)=true:=by rw [hg.1];rfl
    have t7:(chr s (b+1)==58)=true:=by rw [hg.2];rfl
    have hb1:b+1<s.size:=zaB (by omega);have HU:Hid (zbG sg s b=ze8 s b):=by show zbG sg s b=_;unfold zbG;rw [iN nh,iN nd,iN hq,iN h91,iN h37,iN h94,iP hg]
    have HP:Hid (∀w,Cl 51 #[.string s,.int .i64 b] w (rB w (zct (ze8 s b)))):=fun w=>zj9 s b hs hb1 w
    clear hq h91 h37 h94 hg nh nd
    cases hp:ze8 s b with
    | inl t =>
     rw [hp] at HU HP;go_enter Tryz.func28,Tryz.ntmps28;go_wp2_with fail;refine (HA _).mono ?_;rintro e w2 ⟨rfl,rfl⟩;go_wp2_with fail;refine (HH _).mono ?_;rintro e w2 ⟨rfl,rfl⟩;rw [hh];go_wp2_with fail;refine (HD _).mono ?_;rintro e w2 ⟨rfl,rfl⟩;rw [hd];clear hh hd;go_wp2_with fail;refine (HA1 _).mono ?_;rintro e w2 ⟨rfl,rfl⟩;go_wp2_with fail;refine (HP _).mono ?_;rintro e w3 ⟨rfl,b3⟩;have HX3:=hO (HX.below b3);have HB3:Hid (bW w w3):=HB.trans (b3.mono HB.size);clear b3;obtain ⟨c0,c1,c2,c3,c4,c5,c6,c7,c8⟩:=HX3.cells;obtain ⟨f0,f1',f2',f3,f4,f5,f6,f7,f8⟩:=HX3.fz;unfold zct;go_wp2_with fail;exact zai rfl rfl rfl rfl rfl (zar HX3 t) ⟨by rw [HU.out];rfl,zac HB3 (nL _) t⟩
    | inr q =>
     rw [hp] at HU HP;go_enter Tryz.func28,Tryz.ntmps28;go_wp2_with fail;refine (HA _).mono ?_;rintro e w2 ⟨rfl,rfl⟩;go_wp2_with fail;refine (HH _).mono ?_;rintro e w2 ⟨rfl,rfl⟩;rw [hh];go_wp2_with fail;refine (HD _).mono ?_;rintro e w2 ⟨rfl,rfl⟩;rw [hd];clear hh hd;go_wp2_with fail;refine (HA1 _).mono ?_;rintro e w2 ⟨rfl,rfl⟩;go_wp2_with fail;refine (HP _).mono ?_;rintro e w3 ⟨rfl,b3⟩;have HX3:=hO (HX.below b3);have HB3:Hid (bW w w3):=HB.trans (b3.mono HB.size);clear b3;obtain ⟨c0,c1,c2,c3,c4,c5,c6,c7,c8⟩:=HX3.cells;obtain ⟨f0,f1',f2',f3,f4,f5,f6,f7,f8⟩:=HX3.fz;unfold zct;go_wp2_with fail;exact zai rfl rfl rfl rfl rfl (zar HX3 tk0) ⟨by rw [HU.out];rfl,zac HB3 (nL _) tk0⟩
   by_cases h123:chr s b=123
   ·have t6:(chr s b==123)=true:=by rw [h123];rfl
    have t7:(chr s (b+1)==58)=false:=bF (fun q=>hg ⟨h123,q⟩);have HU:Hid (zbG sg s b=sg b):=by show zbG sg s b=_;unfold zbG;rw [iN nh,iN nd,iN hq,iN h91,iN h37,iN h94,iN hg]
    have HP:Hid (∀w,Cl 52 #[.string s,.int .i64 b] w (rB w (zct (sg b)))):=fun w=>HS w
    clear hq h91 h37 h94 hg h123 nh nd
    cases hp:sg b with
    | inl t =>
     rw [hp] at HU HP;go_enter Tryz.func28,Tryz.ntmps28;go_wp2_with fail;refine (HA _).mono ?_;rintro e w2 ⟨rfl,rfl⟩;go_wp2_with fail;refine (HH _).mono ?_;rintro e w2 ⟨rfl,rfl⟩;rw [hh];go_wp2_with fail;refine (HD _).mono ?_;rintro e w2 ⟨rfl,rfl⟩;rw [hd];clear hh hd;go_wp2_with fail;refine (HA1 _).mono ?_;rintro e w2 ⟨rfl,rfl⟩;go_wp2_with fail;refine (HP _).mono ?_;rintro e w3 ⟨rfl,b3⟩;have HX3:=hO (HX.below b3);have HB3:Hid (bW w w3):=HB.trans (b3.mono HB.size);clear b3;obtain ⟨c0,c1,c2,c3,c4,c5,c6,c7,c8⟩:=HX3.cells;obtain ⟨f0,f1',f2',f3,f4,f5,f6,f7,f8⟩:=HX3.fz;unfold zct;go_wp2_with fail;exact zai rfl rfl rfl rfl rfl (zar HX3 t) ⟨by rw [HU.out];rfl,zac HB3 (nL _) t⟩
    | inr q =>
     rw [hp] at HU HP;go_enter Tryz.func28,Tryz.ntmps28;go_wp2_with fail;refine (HA _).mono ?_;rintro e w2 ⟨rfl,rfl⟩;go_wp2_with fail;refine (HH _).mono ?_;rintro e w2 ⟨rfl,rfl⟩;rw [hh];go_wp2_with fail;refine (HD _).mono ?_;rintro e w2 ⟨rfl,rfl⟩;rw [hd];clear hh hd;go_wp2_with fail;refine (HA1 _).mono ?_;rintro e w2 ⟨rfl,rfl⟩;go_wp2_with fail;refine (HP _).mono ?_;rintro e w3 ⟨rfl,b3⟩;have HX3:=hO (HX.below b3);have HB3:Hid (bW w w3):=HB.trans (b3.mono HB.size);clear b3;obtain ⟨c0,c1,c2,c3,c4,c5,c6,c7,c8⟩:=HX3.cells;obtain ⟨f0,f1',f2',f3,f4,f5,f6,f7,f8⟩:=HX3.fz;unfold zct;go_wp2_with fail;exact zai rfl rfl rfl rfl rfl (zar HX3 tk0) ⟨by rw [HU.out];rfl,zac HB3 (nL _) tk0⟩
   ·have t6:(chr s b==123)=false:=bF h123
    have HU:Hid (zbG sg s b=sg b):=by show zbG sg s b=_;unfold zbG;rw [iN nh,iN nd,iN hq,iN h91,iN h37,iN h94,iN hg]
    have HP:Hid (∀w,Cl 52 #[.string s,.int .i64 b] w (rB w (zct (sg b)))):=fun w=>HS w
    clear hq h91 h37 h94 hg h123 nh nd
    cases hp:sg b with
    | inl t =>
     rw [hp] at HU HP;go_enter Tryz.func28,Tryz.ntmps28;go_wp2_with fail;refine (HA _).mono ?_;rintro e w2 ⟨rfl,rfl⟩;go_wp2_with fail;refine (HH _).mono ?_;rintro e w2 ⟨rfl,rfl⟩;rw [hh];go_wp2_with fail;refine (HD _).mono ?_;rintro e w2 ⟨rfl,rfl⟩;rw [hd];clear hh hd;go_wp2_with fail;refine (HP _).mono ?_;rintro e w3 ⟨rfl,b3⟩;have HX3:=hO (HX.below b3);have HB3:Hid (bW w w3):=HB.trans (b3.mono HB.size);clear b3;obtain ⟨c0,c1,c2,c3,c4,c5,c6,c7,c8⟩:=HX3.cells;obtain ⟨f0,f1',f2',f3,f4,f5,f6,f7,f8⟩:=HX3.fz;unfold zct;go_wp2_with fail;exact zai rfl rfl rfl rfl rfl (zar HX3 t) ⟨by rw [HU.out];rfl,zac HB3 (nL _) t⟩
    | inr q =>
     rw [hp] at HU HP;go_enter Tryz.func28,Tryz.ntmps28;go_wp2_with fail;refine (HA _).mono ?_;rintro e w2 ⟨rfl,rfl⟩;go_wp2_with fail;refine (HH _).mono ?_;rintro e w2 ⟨rfl,rfl⟩;rw [hh];go_wp2_with fail;refine (HD _).mono ?_;rintro e w2 ⟨rfl,rfl⟩;rw [hd];clear hh hd;go_wp2_with fail;refine (HP _).mono ?_;rintro e w3 ⟨rfl,b3⟩;have HX3:=hO (HX.below b3);have HB3:Hid (bW w w3):=HB.trans (b3.mono HB.size);clear b3;obtain ⟨c0,c1,c2,c3,c4,c5,c6,c7,c8⟩:=HX3.cells;obtain ⟨f0,f1',f2',f3,f4,f5,f6,f7,f8⟩:=HX3.fz;unfold zct;go_wp2_with fail;exact zai rfl rfl rfl rfl rfl (zar HX3 tk0) ⟨by rw [HU.out];rfl,zac HB3 (nL _) tk0⟩
abbrev svO (x:BitVec 256):Obj:=.cells #[.int .u64 (wd x 0),.int .u64 (wd x 1),.int .u64 (wd x 2),.int .u64 (wd x 3)] 63
theorem zg6 (s:ByteArray) (b:Nat) (hs:s.size<=140737488355000) (w:World):Cl 83 #[.string s,.int .i64 b] w (rB w (za1 (clT s b (zap s b)))):=by
 have HF:Hid (∀i e w,Cl 104 #[.int .i64 i,.int .i64 e] w fun e' w'=>e'=.returned (zaR tk0 i e)/\bW w w'):=fun i e w=>zaK i e w
 have HC:Hid (∀w,Cl 109 #[.string s,.int .i64 b] w (rB w (mbV (zap s b)))):=fun w=>zme s b (by omega) w
 have HX:Hid (BX w ((w.alloc (tkO tk0)).alloc (fxO 0 0)) tk0 0 0):=BX.new w
 cases hr:zap s b with
 | inr p =>
  obtain ⟨a,c⟩:=p;have hne:=zeK hr;rw [hr] at HC;clear hr;unfold mbV at HC;by_cases h6:c=6/\a=s.size
  ·obtain ⟨rfl,rfl⟩:=h6
   have HE:Hid (clT s b (.inr (s.size,6))=.inr (b,52)):=by show clT s b (.inr (s.size,6))=_;rw [clT,iP ⟨rfl,rfl⟩]
   go_enter Tryz.func83,Tryz.ntmps83;go_wp2_with fail;refine (HC _).mono ?_;rintro e w2 ⟨rfl,b2⟩;have HX2:Hid (BX w ((w2.alloc (svO 0#256)).alloc (fxO s.size 6)) tk0 0 0):=((HX.below b2).below (zaa _ _)).below (zaa _ _);clear b2 HX HC;go_wp2_with fail;refine (HF _ _ _).mono ?_;rintro e w3 ⟨rfl,b3⟩;have HX3:=hO (HX2.below b3);clear b3 HX2 HF;obtain ⟨f0,f1',f2',f3,f4,f5,f6,f7,f8,g0,g1⟩:=HX3.fz;obtain ⟨c0,c1,c2,c3,c4,c5,c6,c7,c8,d0,d1⟩:=HX3.cells;unfold zaR;go_wp2_with fail;have HP:=HX3.put tk0 b 52;exact zao rfl rfl rfl rfl HP ⟨by rw [HE.out];rfl,HP.b⟩
  ·have HE:Hid (clT s b (.inr (a,c))=.inr (a,c)):=by show clT s b (.inr (a,c))=_;rw [clT,iN h6]
   have t1:(c != 0)=true:=by rw [bne,bF hne];rfl
   by_cases hc6:c=6
   ·have ha:¬a=s.size:=fun q=>h6 ⟨hc6,q⟩
    have t2:((a:Int)==(s.size:Int))=false:=by rw [beq_eq_false_iff_ne];omega
    subst hc6;clear h6 hne ha t1;go_enter Tryz.func83,Tryz.ntmps83;go_wp2_with fail;refine (HC _).mono ?_;rintro e w2 ⟨rfl,b2⟩;have HX2:Hid (BX w ((w2.alloc (svO 0#256)).alloc (fxO a 6)) tk0 0 0):=((HX.below b2).below (zaa _ _)).below (zaa _ _);clear b2 HX HC;go_wp2_with fail;refine (HF _ _ _).mono ?_;rintro e w3 ⟨rfl,b3⟩;have HX3:=hO (HX2.below b3);clear b3 HX2 HF;obtain ⟨f0,f1',f2',f3,f4,f5,f6,f7,f8,g0,g1⟩:=HX3.fz;obtain ⟨c0,c1,c2,c3,c4,c5,c6,c7,c8,d0,d1⟩:=HX3.cells;unfold zaR;go_wp2_with fail;have HP:=HX3.put tk0 a 6;exact zao rfl rfl rfl rfl HP ⟨by rw [HE.out];rfl,HP.b⟩
   ·have t2:(c==6)=false:=bF hc6
    clear h6 hne hc6;go_enter Tryz.func83,Tryz.ntmps83;go_wp2_with fail;refine (HC _).mono ?_;rintro e w2 ⟨rfl,b2⟩;have HX2:Hid (BX w ((w2.alloc (svO 0#256)).alloc (fxO a c)) tk0 0 0):=((HX.below b2).below (zaa _ _)).below (zaa _ _);clear b2 HX HC;go_wp2_with fail;refine (HF _ _ _).mono ?_;rintro e w3 ⟨rfl,b3⟩;have HX3:=hO (HX2.below b3);clear b3 HX2 HF;obtain ⟨f0,f1',f2',f3,f4,f5,f6,f7,f8,g0,g1⟩:=HX3.fz;obtain ⟨c0,c1,c2,c3,c4,c5,c6,c7,c8,d0,d1⟩:=HX3.cells;unfold zaR;go_wp2_with fail;have HP:=HX3.put tk0 a c;exact zao rfl rfl rfl rfl HP ⟨by rw [HE.out];rfl,HP.b⟩
 | inl p =>
  obtain ⟨x,n⟩:=p;rw [hr] at HC;clear hr HF;unfold mbV at HC;have HE:Hid (clT s b (.inl (x,n))=.inl ⟨3,0,b,n,⟨#[]⟩,wd x 0,wd x 1,wd x 2,wd x 3⟩):=rfl;go_enter Tryz.func83,Tryz.ntmps83;go_wp2_with fail;refine (HC _).mono ?_;rintro e w2 ⟨rfl,b2⟩;have HX2:=hO (HX.below b2);clear b2 HX HC;obtain ⟨f0,f1',f2',f3,f4,f5,f6,f7,f8,g0,g1⟩:=HX2.fz;obtain ⟨c0,c1,c2,c3,c4,c5,c6,c7,c8,d0,d1⟩:=HX2.cells;have hsz2:=HX2.size;have hl1:w.heap.size<w2.heap.size:=by omega
  have hne1:w.heap.size≠w2.heap.size:=by omega
  have hne2:w.heap.size+1≠w2.heap.size:=by omega
  go_wp2_with fail;have HP:=((HX2.put ⟨3,0,b,n,⟨#[]⟩,wd x 0,wd x 1,wd x 2,wd x 3⟩ 0 0).below (zaa _ (svO x))).below (zaa _ (fxO 0 0));exact zao rfl rfl rfl rfl HP ⟨by rw [HE.out];rfl,HP.b⟩
def zc2 (s:ByteArray) (b:Nat):Sum Tk (Nat×Int) :=
 if pfx s b [37,117,123]=true then zb6 s b else if ¬(zax s b).1=0 then zbS s b
 else if b+1<s.size/\(cls (chr s (b+1)).toNat).2=0 then .inl ⟨28,0,b,(b+2:Nat),s.extract (b+1) (b+2),wd (cls (chr s (b+1)).toNat).1 0,wd (cls (chr s (b+1)).toNat).1 1,wd (cls (chr s (b+1)).toNat).1 2,wd (cls (chr s (b+1)).toNat).1 3⟩ else .inr (b,10)
structure AtP (w W:World) (c:Nat) (y:BitVec 256):Prop where
 x:BX w W tk0 0 0
 h:Holds W c y
theorem AtP.below {w W W':World} {c:Nat} {x:BitVec 256} (h:AtP w W c x) (hb:bW W W'):AtP w W' c x:=⟨h.x.below hb,h.h.below hb h.h.lt⟩
theorem zmf (k:Int) (tx:ByteArray) (W:World):(Instr.field 132 (.agg #[.int .i64 k,.string tx]) 0).run Tryz.prog W=.ok (.int .i64 k) W:=by simp [Instr.field,run_underlying Tryz.underlying132,asAgg,go_sem]
theorem AtP.drew {w W:World} {c:Nat} {x:BitVec 256} (h:AtP w W c x):AtP w W.drew c x:=h.below (bR _ _).drew
theorem zki (s:ByteArray) (b:Nat) (hs:s.size<=140737488355000) (hb:b<=s.size) (h:pfx s b [37,117,123]=true) (w:World) (hg:SG w):Cl 84 #[.string s,.int .i64 b] w (rB w (za1 (zc2 s b))):=by
 have HS:Hid (∀w,Cl 57 #[.string s,.int .i64 b,.string ⟨#[37,117,123]⟩] w (rU w (.bool (pfx s b [37,117,123])))):=fun w=>zaz s b ⟨#[37,117,123]⟩ hb w
 have HX:Hid (BX w ((w.alloc (tkO tk0)).alloc (fxO 0 0)) tk0 0 0):=BX.new w;have HG:Hid (SG ((w.alloc (tkO tk0)).alloc (fxO 0 0))):=(hg.later (zaa _ _)).later (zaa _ _);have HSA:Hid (∀w,SG w->Cl 111 #[.string s,.int .i64 b] w (rB w (.agg #[.int .i64 (zax s b).1,.string ⟨(zax s b).2.toArray⟩]))):=fun w h=>za3 s b hb w h
 clear hg;have HN:Hid (∀w,Cl 110 #[.string s,.int .i64 b] w (rB w (za1 (zb6 s b)))):=fun w=>zfM s b hs (zgW hb h) w
 have HE:Hid (zc2 s b=zb6 s b):=by show zc2 s b=_;unfold zc2;rw [iP h]
 rw [h] at HS;clear HSA HG h;go_enter Tryz.func84,Tryz.ntmps84;go_wp2_with fail;refine (HS _).mono ?_;rintro e w1 ⟨rfl,rfl⟩;clear HS;go_wp2_with fail;refine (HN _).mono ?_;rintro e w3 ⟨rfl,b3⟩;have HX3:=hO (HX.below b3);clear b3 HX HN;obtain ⟨f0,f1',f2',f3,f4,f5,f6,f7,f8,g0,g1⟩:=HX3.fz;obtain ⟨c0,c1,c2,c3,c4,c5,c6,c7,c8,d0,d1⟩:=HX3.cells;generalize zb6 s b=r at *
 cases r with
 | inl t =>
  unfold za1;go_wp2_with fail;have HP:=HX3.put t 0 0;exact zao rfl rfl rfl rfl HP ⟨by rw [HE.out];rfl,HP.b⟩
 | inr q =>
  unfold za1;go_wp2_with fail;have HP:=HX3.put tk0 q.1 q.2;exact zao rfl rfl rfl rfl HP ⟨by rw [HE.out];rfl,HP.b⟩
theorem zoF (s:ByteArray) (b:Nat) (hs:s.size<=140737488355000) (hb:b<=s.size) (h:pfx s b [37,117,123]=false) (h2:¬(zax s b).1=0) (w:World) (hg:SG w):Cl 84 #[.string s,.int .i64 b] w (rB w (za1 (zc2 s b))):=by
 have HS:Hid (∀w,Cl 57 #[.string s,.int .i64 b,.string ⟨#[37,117,123]⟩] w (rU w (.bool (pfx s b [37,117,123])))):=fun w=>zaz s b ⟨#[37,117,123]⟩ hb w
 have HX:Hid (BX w ((w.alloc (tkO tk0)).alloc (fxO 0 0)) tk0 0 0):=BX.new w;have HG:Hid (SG ((w.alloc (tkO tk0)).alloc (fxO 0 0))):=(hg.later (zaa _ _)).later (zaa _ _);have HSA:Hid (∀w,SG w->Cl 111 #[.string s,.int .i64 b] w (rB w (.agg #[.int .i64 (zax s b).1,.string ⟨(zax s b).2.toArray⟩]))):=fun w h=>za3 s b hb w h
 clear hg;have HN:Hid (∀w,SG w->Cl 85 #[.string s,.int .i64 b] w (rB w (za1 (zbS s b)))):=fun w g=>zd2 s b hs hb w g
 have HE:Hid (zc2 s b=zbS s b):=by show zc2 s b=_;unfold zc2;rw [iN (by rw [h];decide),iP h2]
 have v1:((zax s b).1 != 0)=true:=by rw [bne,bF h2];rfl
 rw [h] at HS;clear h h2;generalize (zax s b).1=k at *;generalize ByteArray.mk (zax s b).2.toArray=tx at *;have hfld:=zmf k tx;go_enter Tryz.func84,Tryz.ntmps84;go_wp2_with fail;refine (HS _).mono ?_;rintro e w1 ⟨rfl,rfl⟩;clear HS;go_wp2_with fail;refine (HSA _ HG.out).mono ?_;rintro e w2 ⟨rfl,b2⟩;have HX2:=hO (HX.below b2);have HG2:=hO (HG.later b2);clear b2 HX HG HSA;go_wp2_with fail;refine (HN _ HG2.out).mono ?_;rintro e w3 ⟨rfl,b3⟩;have HX3:=hO (HX2.below b3);clear b3 HX2 HN HG2;obtain ⟨f0,f1',f2',f3,f4,f5,f6,f7,f8,g0,g1⟩:=HX3.fz;obtain ⟨c0,c1,c2,c3,c4,c5,c6,c7,c8,d0,d1⟩:=HX3.cells;generalize zbS s b=r at *
 cases r with
 | inl t =>
  unfold za1;go_wp2_with fail;have HP:=HX3.put t 0 0;exact zao rfl rfl rfl rfl HP ⟨by rw [HE.out];rfl,HP.b⟩
 | inr q =>
  unfold za1;go_wp2_with fail;have HP:=HX3.put tk0 q.1 q.2;exact zao rfl rfl rfl rfl HP ⟨by rw [HE.out];rfl,HP.b⟩
theorem pc_end (s:ByteArray) (b:Nat) (hs:s.size<=140737488355000) (hb:b<=s.size) (h:pfx s b [37,117,123]=false) (h2:(zax s b).1=0) (h3:¬b+1<s.size) (w:World) (hg:SG w):Cl 84 #[.string s,.int .i64 b] w (rB w (za1 (zc2 s b))):=by
 have HS:Hid (∀w,Cl 57 #[.string s,.int .i64 b,.string ⟨#[37,117,123]⟩] w (rU w (.bool (pfx s b [37,117,123])))):=fun w=>zaz s b ⟨#[37,117,123]⟩ hb w
 have HX:Hid (BX w ((w.alloc (tkO tk0)).alloc (fxO 0 0)) tk0 0 0):=BX.new w;have HG:Hid (SG ((w.alloc (tkO tk0)).alloc (fxO 0 0))):=(hg.later (zaa _ _)).later (zaa _ _);have HSA:Hid (∀w,SG w->Cl 111 #[.string s,.int .i64 b] w (rB w (.agg #[.int .i64 (zax s b).1,.string ⟨(zax s b).2.toArray⟩]))):=fun w h=>za3 s b hb w h
 clear hg;have HF:Hid (∀i e w,Cl 104 #[.int .i64 i,.int .i64 e] w fun e' w'=>e'=.returned (zaR tk0 i e)/\bW w w'):=fun i e w=>zaK i e w
 have HE:Hid (zc2 s b=.inr (b,10)):=by show zc2 s b=_;unfold zc2;rw [iN (by rw [h];decide),iN (fun q=>q h2),iN (fun q=>h3 q.1)]
 have z1:¬(b:Int)+1<(s.size:Int):=by omega
 have v1:((zax s b).1 != 0)=false:=by rw [h2];rfl
 rw [h] at HS;clear h h2;generalize (zax s b).1=k at *;generalize ByteArray.mk (zax s b).2.toArray=tx at *;have hfld:=zmf k tx;go_enter Tryz.func84,Tryz.ntmps84;go_wp2_with fail;refine (HS _).mono ?_;rintro e w1 ⟨rfl,rfl⟩;clear HS;go_wp2_with fail;refine (HSA _ HG.out).mono ?_;rintro e w2 ⟨rfl,b2⟩;have HX2:=hO (HX.below b2);have HG2:=hO (HG.later b2);clear b2 HX HG HSA;go_wp2_with fail;refine (HF _ _ _).mono ?_;rintro e w3 ⟨rfl,b3⟩;have HX3:=hO (HX2.below b3);clear b3 HX2 HF HG2;obtain ⟨f0,f1',f2',f3,f4,f5,f6,f7,f8,g0,g1⟩:=HX3.fz;obtain ⟨c0,c1,c2,c3,c4,c5,c6,c7,c8,d0,d1⟩:=HX3.cells;unfold zaR;go_wp2_with fail;have HP:=HX3.put tk0 b 10;exact zao rfl rfl rfl rfl HP ⟨by rw [HE.out];rfl,HP.b⟩
theorem zoG (s:ByteArray) (b:Nat) (hs:s.size<=140737488355000) (hb:b<=s.size) (h:pfx s b [37,117,123]=false) (h2:(zax s b).1=0) (h3:b+1<s.size) (h4:¬(cls (chr s (b+1)).toNat).2=0) (w:World) (hg:SG w):Cl 84 #[.string s,.int .i64 b] w (rB w (za1 (zc2 s b))):=by
 have HS:Hid (∀w,Cl 57 #[.string s,.int .i64 b,.string ⟨#[37,117,123]⟩] w (rU w (.bool (pfx s b [37,117,123])))):=fun w=>zaz s b ⟨#[37,117,123]⟩ hb w
 have HX:Hid (BX w ((w.alloc (tkO tk0)).alloc (fxO 0 0)) tk0 0 0):=BX.new w;have HG:Hid (SG ((w.alloc (tkO tk0)).alloc (fxO 0 0))):=(hg.later (zaa _ _)).later (zaa _ _);have HSA:Hid (∀w,SG w->Cl 111 #[.string s,.int .i64 b] w (rB w (.agg #[.int .i64 (zax s b).1,.string ⟨(zax s b).2.toArray⟩]))):=fun w h=>za3 s b hb w h
 clear hg;have HF:Hid (∀i e w,Cl 104 #[.int .i64 i,.int .i64 e] w fun e' w'=>e'=.returned (zaR tk0 i e)/\bW w w'):=fun i e w=>zaK i e w
 have HE:Hid (zc2 s b=.inr (b,10)):=by show zc2 s b=_;unfold zc2;rw [iN (by rw [h];decide),iN (fun q=>q h2),iN (fun q=>h4 q.2)]
 have hc:=zam h3;obtain ⟨c,hcc⟩:∃c:Nat,c=(chr s (b+1)).toNat:=⟨_,rfl⟩;have hcn:(s[b+1].toNat:Int)=c:=by rw [hcc,hc];omega
 have hclt:c<256:=by have:=zbi s (b+1);omega
 have HC:Hid (∀w,Cl 112 #[.int .u8 (s[b+1].toNat:Int)] w (rB w (.tuple #[sv (cls c).1,.int .i64 (cls c).2]))):=fun w=>by rw [hcn];exact zeJ c hclt w
 obtain ⟨j1,hj1⟩:∃j,j=b+1:=⟨_,rfl⟩;obtain ⟨j2,hj2⟩:∃j,j=b+2:=⟨_,rfl⟩;have u1:IntKind.i64.wrap ((b:Int)+1)=(j1:Int):=by rw [hj1,wI];omega
 have u2:IntKind.i64.wrap ((b:Int)+2)=(j2:Int):=by rw [hj2,wI];omega
 have y0:(0:Int)<=(j1:Int):=by omega
 have y1:(j1:Int)<=(j2:Int):=by omega
 have y2:(j2:Int)<=(s.size:Int):=by omega
 have y3:(j1:Int)<(s.size:Int):=by omega
 have h3':j1<s.size:=by omega
 have HC2:Hid (∀w,Cl 112 #[.int .u8 (s[j1].toNat:Int)] w (rB w (.tuple #[sv (cls c).1,.int .i64 (cls c).2]))):=by subst hj1;exact HC
 clear HC hcn hc hclt;rw [<-hcc] at h4;have v4:((cls c).2==0)=false:=bF h4;clear hcc h4 hj1 hj2;generalize (cls c).2=q at *;generalize (cls c).1=x at *;have v1:((zax s b).1 != 0)=false:=by rw [h2];rfl
 rw [h] at HS;clear h h2;generalize (zax s b).1=k at *;generalize ByteArray.mk (zax s b).2.toArray=tx at *;have hfld:=zmf k tx;go_enter Tryz.func84,Tryz.ntmps84;go_wp2_with fail;refine (HS _).mono ?_;rintro e w1 ⟨rfl,rfl⟩;clear HS;go_wp2_with fail;refine (HSA _ HG.out).mono ?_;rintro e w2 ⟨rfl,b2⟩;have HX2:=hO (HX.below b2);have HG2:=hO (HG.later b2);clear b2 HX HG HSA;go_wp2_with fail;refine (HC2 _).mono ?_;rintro e w3 ⟨rfl,b3⟩;have HX3:Hid (BX w (w3.alloc (svO x)) tk0 0 0):=(HX2.below b3).below (zaa _ _);clear b3 HX2 HC2 HG2;go_wp2_with fail;refine (HF _ _ _).mono ?_;rintro e w4 ⟨rfl,b4⟩;have HX4:=hO (HX3.below b4);clear b4 HX3 HF;obtain ⟨f0,f1',f2',f3,f4,f5,f6,f7,f8,g0,g1⟩:=HX4.fz;obtain ⟨c0,c1,c2,c3,c4,c5,c6,c7,c8,d0,d1⟩:=HX4.cells;unfold zaR;go_wp2_with fail;have HP:=HX4.put tk0 b 10;exact zao rfl rfl rfl rfl HP ⟨by rw [HE.out];rfl,HP.b⟩
theorem zmg (s:ByteArray) (b:Nat) (hs:s.size<=140737488355000) (hb:b<=s.size) (h:pfx s b [37,117,123]=false) (h2:(zax s b).1=0) (h3:b+1<s.size) (h4:(cls (chr s (b+1)).toNat).2=0) (w:World) (hg:SG w):Cl 84 #[.string s,.int .i64 b] w (rB w (za1 (zc2 s b))):=by
 have HS:Hid (∀w,Cl 57 #[.string s,.int .i64 b,.string ⟨#[37,117,123]⟩] w (rU w (.bool (pfx s b [37,117,123])))):=fun w=>zaz s b ⟨#[37,117,123]⟩ hb w
 have HX:Hid (BX w ((w.alloc (tkO tk0)).alloc (fxO 0 0)) tk0 0 0):=BX.new w;have HG:Hid (SG ((w.alloc (tkO tk0)).alloc (fxO 0 0))):=(hg.later (zaa _ _)).later (zaa _ _);have HSA:Hid (∀w,SG w->Cl 111 #[.string s,.int .i64 b] w (rB w (.agg #[.int .i64 (zax s b).1,.string ⟨(zax s b).2.toArray⟩]))):=fun w h=>za3 s b hb w h
 clear hg;have HE:Hid (zc2 s b=.inl ⟨28,0,b,(b+2:Nat),s.extract (b+1) (b+2),wd (cls (chr s (b+1)).toNat).1 0,wd (cls (chr s (b+1)).toNat).1 1,wd (cls (chr s (b+1)).toNat).1 2,wd (cls (chr s (b+1)).toNat).1 3⟩):=by show zc2 s b=_;unfold zc2;rw [iN (by rw [h];decide),iN (fun q=>q h2),iP ⟨h3,h4⟩]
 have hc:=zam h3;obtain ⟨c,hcc⟩:∃c:Nat,c=(chr s (b+1)).toNat:=⟨_,rfl⟩;have hcn:(s[b+1].toNat:Int)=c:=by rw [hcc,hc];omega
 have hclt:c<256:=by have:=zbi s (b+1);omega
 have HC:Hid (∀w,Cl 112 #[.int .u8 (s[b+1].toNat:Int)] w (rB w (.tuple #[sv (cls c).1,.int .i64 (cls c).2]))):=fun w=>by rw [hcn];exact zeJ c hclt w
 obtain ⟨j1,hj1⟩:∃j,j=b+1:=⟨_,rfl⟩;obtain ⟨j2,hj2⟩:∃j,j=b+2:=⟨_,rfl⟩;have u1:IntKind.i64.wrap ((b:Int)+1)=(j1:Int):=by rw [hj1,wI];omega
 have u2:IntKind.i64.wrap ((b:Int)+2)=(j2:Int):=by rw [hj2,wI];omega
 have y0:(0:Int)<=(j1:Int):=by omega
 have y1:(j1:Int)<=(j2:Int):=by omega
 have y2:(j2:Int)<=(s.size:Int):=by omega
 have y3:(j1:Int)<(s.size:Int):=by omega
 have h3':j1<s.size:=by omega
 have HC2:Hid (∀w,Cl 112 #[.int .u8 (s[j1].toNat:Int)] w (rB w (.tuple #[sv (cls c).1,.int .i64 (cls c).2]))):=by subst hj1;exact HC
 clear HC hcn hc hclt;rw [<-hcc] at h4 HE;rw [h4] at HC2;rw [<-hj1,<-hj2] at HE;clear hcc h4 hj1 hj2;generalize (cls c).1=x at *;have v1:((zax s b).1 != 0)=false:=by rw [h2];rfl
 rw [h] at HS;clear h h2;generalize (zax s b).1=k at *;generalize ByteArray.mk (zax s b).2.toArray=tx at *;have HCo:Hid (∀w,Cl 105 #[.string (s.extract j1 j2)] w (rB w (.string (s.extract j1 j2)))):=fun w=>zfi _ w
 have hfld:=zmf k tx;go_enter Tryz.func84,Tryz.ntmps84;go_wp2_with fail;refine (HS _).mono ?_;rintro e w1 ⟨rfl,rfl⟩;clear HS;go_wp2_with fail;refine (HSA _ HG.out).mono ?_;rintro e w2 ⟨rfl,b2⟩;have HX2:=hO (HX.below b2);have HG2:=hO (HG.later b2);clear b2 HX HG HSA;go_wp2_with fail;refine (HC2 _).mono ?_;rintro e w3 ⟨rfl,b3⟩;have HP3:Hid (AtP w (w3.alloc (svO x)) w3.heap.size x):=⟨(HX2.below b3).below (zaa _ _),Holds.new w3 x⟩;have hsz:=(HX2.below b3).size;have ne1:¬w3.heap.size=w.heap.size:=by omega
 have ne2:¬w.heap.size=w3.heap.size:=by omega
 have ne3:¬w3.heap.size=w.heap.size+1:=by omega
 have ne4:¬w.heap.size+1=w3.heap.size:=by omega
 clear b3 HX2 HC2 HG2 hsz;go_wp2_with fail;generalize w3.alloc (svO x)=w4 at *;obtain ⟨f0,f1',f2',f3,f4,f5,f6,f7,f8,g0,g1⟩:=HP3.x.fz;obtain ⟨c0,c1,c2,c3,c4,c5,c6,c7,c8,d0,d1⟩:=HP3.x.cells;obtain ⟨_,e0,e1,e2,e3,_,_,_,_⟩:=HP3.h;go_region_with (go_at_call 105;refine (HCo.out _).mono ?_;rintro e w5 ⟨rfl,hb5⟩;have hA2:=(show AtP w w5 w3.heap.size x from (by first | exact HP3.out.below hb5 | exact HP3.out.drew.below hb5));replace HP3:=(show Hid _ from hA2);clear hA2 hb5 f0 f1' f2' f3 f4 f5 f6 f7 f8 g0 g1 c0 c1 c2 c3 c4 c5 c6 c7 c8 d0 d1 e0 e1 e2 e3;obtain ⟨f0,f1',f2',f3,f4,f5,f6,f7,f8,g0,g1⟩:=HP3.out.x.fz;obtain ⟨c0,c1,c2,c3,c4,c5,c6,c7,c8,d0,d1⟩:=HP3.out.x.cells;obtain ⟨_,e0,e1,e2,e3,_,_,_,_⟩:=HP3.out.h)
 all_goals
  go_wp2_with fail;have HP:=HP3.x.put ⟨28,0,b,j2,s.extract j1 j2,wd x 0,wd x 1,wd x 2,wd x 3⟩ 0 0;exact zao rfl rfl rfl rfl HP ⟨by rw [HE.out];rfl,HP.b⟩
theorem zeL (s:ByteArray) (b:Nat) (hs:s.size<=140737488355000) (hb:b<=s.size) (w:World) (hg:SG w):Cl 84 #[.string s,.int .i64 b] w (rB w (za1 (zc2 s b))):=by
 cases h:pfx s b [37,117,123] with
 | true=>exact zki s b hs hb h w hg
 | false =>
  by_cases h2:(zax s b).1=0
  ·by_cases h3:b+1<s.size
   ·by_cases h4:(cls (chr s (b+1)).toNat).2=0
    ·exact zmg s b hs hb h h2 h3 h4 w hg
    ·exact zoG s b hs hb h h2 h3 h4 w hg
   ·exact pc_end s b hs hb h h2 h3 w hg
  ·exact zoF s b hs hb h h2 w hg
end Go.Proofs.YtkihfkcmcdiajabGreatDoor
