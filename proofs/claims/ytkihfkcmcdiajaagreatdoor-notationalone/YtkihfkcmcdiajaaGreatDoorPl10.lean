/- DERIVED. Plain mathematics and walks, laid together (10). -/
import Derived.Test.YtkihfkcmcdiajaaGreatDoorPl09
set_option maxRecDepth 100000
set_option maxHeartbeats 8000000
namespace Go.Proofs.YtkihfkcmcdiajaaGreatDoor
open Go.RowKit
abbrev p6 (W:World) (g:Nat) (x:BitVec 256) (tx:ByteArray):World:=(((((W.setCell ⟨g,0,none⟩ (.int .i64 28)).setCell ⟨g,5,none⟩ (.int .u64 (wd x 0))).setCell ⟨g,6,none⟩ (.int .u64 (wd x 1))).setCell ⟨g,7,none⟩ (.int .u64 (wd x 2))).setCell ⟨g,8,none⟩ (.int .u64 (wd x 3))).setCell ⟨g,4,none⟩ (.string tx)
theorem p6_tx {W:World} {g:Nat} {fr en:Int} (h:TX W g ⟨0,0,fr,en,⟨#[]⟩,0,0,0,0⟩) (x:BitVec 256) (tx:ByteArray):TX (p6 W g x tx) g ⟨28,0,fr,en,tx,wd x 0,wd x 1,wd x 2,wd x 3⟩:=by
 have h:=h.heap;have h0:=heap_setCell_same _ g 0 _ 79 (.int .i64 28) h;have h1:=heap_setCell_same _ g 5 _ 79 (.int .u64 (wd x 0)) h0;have h2:=heap_setCell_same _ g 6 _ 79 (.int .u64 (wd x 1)) h1;have h3:=heap_setCell_same _ g 7 _ 79 (.int .u64 (wd x 2)) h2;have h4:=heap_setCell_same _ g 8 _ 79 (.int .u64 (wd x 3)) h3;have h5:=heap_setCell_same _ g 4 _ 79 (.string tx) h4;refine ⟨?_⟩;rw [h5];simp
theorem zhB {W:World} {g b:Nat} (h:b≠g) (x:BitVec 256) (tx:ByteArray):(p6 W g x tx).heap[b]?=W.heap[b]?:=by
 rw [heap_setCell_other _ _ _ _ h,heap_setCell_other _ _ _ _ h,heap_setCell_other _ _ _ _ h,heap_setCell_other _ _ _ _ h,heap_setCell_other _ _ _ _ h,heap_setCell_other _ _ _ _ h]
theorem zhC {B:Nat} {w W:World} {g:Nat} (h:Below B w W) (hb:B<=g) (x:BitVec 256) (tx:ByteArray):Below B w (p6 W g x tx):=(((((h.setCell (p:=⟨g,0,none⟩) hb _).setCell (p:=⟨g,5,none⟩) hb _).setCell (p:=⟨g,6,none⟩) hb _).setCell (p:=⟨g,7,none⟩) hb _).setCell (p:=⟨g,8,none⟩) hb _).setCell (p:=⟨g,4,none⟩) hb _
theorem zjO (n:Nat):(cls n).2=0∨(cls n).2=10:=by
 unfold cls
 split
 ·split
  ·exact .inl rfl
  ·exact zdJ (n+32)
 ·exact zdJ n
theorem zgS (s:ByteArray) (b:Nat) (hs:s.size<=140737488355000) (hb:b<s.size) (w:World):Calls Tryz.prog 64 #[.string s,.int .i64 b] w (rB w (zcr (zdA s b))):=by
 have HWr:Hid (∀i e w,Cl 58 #[.int .i64 i,.int .i64 e] w fun e' w'=>e'=.returned (.tuple #[tkG tk0,.int .i64 i,.int .i64 e])/\Below w.heap.size w w'):=fun i e w=>zbO i e w
 have HA1:Hid (∀w,Cl 55 #[.string s,.int .i64 ((b:Int)+1)] w (rU w (.int .i64 (chr s (b+1))))):=fun w=>zaZ s (b+1) w
 have HA2:Hid (∀w,Cl 55 #[.string s,.int .i64 ((b:Int)+2)] w (rU w (.int .i64 (chr s (b+2))))):=fun w=>zaZ s (b+2) w
 have HX:Hid (TX ((w.alloc (tkO tk0)).alloc (tkO ⟨0,0,b,b+2,⟨#[]⟩,0,0,0,0⟩)) w.heap.size tk0/\TX ((w.alloc (tkO tk0)).alloc (tkO ⟨0,0,b,b+2,⟨#[]⟩,0,0,0,0⟩)) (w.heap.size+1) ⟨0,0,b,b+2,⟨#[]⟩,0,0,0,0⟩):=⟨(TX.new w _).below (zaa _ _),by have h:=TX.new (w.alloc (tkO tk0)) ⟨0,0,b,b+2,⟨#[]⟩,0,0,0,0⟩;(try unfold rB at h);rw [sA] at h;exact h⟩;have HB:Hid (Below w.heap.size w ((w.alloc (tkO tk0)).alloc (tkO ⟨0,0,b,b+2,⟨#[]⟩,0,0,0,0⟩))):=(zaa w _).alloc (zaa w _).size _;by_cases hu:chr s (b+1)=117/\chr s (b+2)=123
 ·have t1:(chr s (b+1)==117)=true:=by rw [hu.1];rfl
  have t2:(chr s (b+2)==123)=true:=by rw [hu.2];rfl
  have h2:b+2<s.size:=zaz (by omega);have HU:Hid (zdA s b=zbZ s b):=by show zdA s b=_;unfold zdA;rw [iP hu]
  have HP:Hid (∀w,Cl 92 #[.string s,.int .i64 b] w (rB w (zcr (zbZ s b)))):=fun w=>zif s b hs (by omega) w
  clear hu
  cases hp:zbZ s b with
  | inl t =>
   rw [hp] at HU HP;go_enter Tryz.func64,Tryz.ntmps64;go_wp2_with fail;refine (HA1 _).mono ?_;rintro e w2 ⟨rfl,rfl⟩;go_wp2_with fail;refine (HA2 _).mono ?_;rintro e w2 ⟨rfl,rfl⟩;clear HA1 HA2;go_wp2_with fail;refine (HP _).mono ?_;rintro e w3 ⟨rfl,b3⟩;have HX3:=hO (HX.1.below b3);have HB3:Hid (Below w.heap.size w w3):=HB.trans (b3.mono HB.size);clear b3 HWr HP;obtain ⟨c0,c1,c2,c3,c4,c5,c6,c7,c8⟩:=HX3.cells;obtain ⟨f0,f1',f2',f3,f4,f5,f6,f7,f8⟩:=HX3.fz;unfold zcr;go_wp2_with fail;exact zah rfl rfl rfl rfl rfl (zar HX3 t) ⟨by rw [HU.out];rfl,zac HB3 (nL _) t⟩
  | inr q =>
   rw [hp] at HU HP;go_enter Tryz.func64,Tryz.ntmps64;go_wp2_with fail;refine (HA1 _).mono ?_;rintro e w2 ⟨rfl,rfl⟩;go_wp2_with fail;refine (HA2 _).mono ?_;rintro e w2 ⟨rfl,rfl⟩;clear HA1 HA2;go_wp2_with fail;refine (HP _).mono ?_;rintro e w3 ⟨rfl,b3⟩;have HX3:=hO (HX.1.below b3);have HB3:Hid (Below w.heap.size w w3):=HB.trans (b3.mono HB.size);clear b3 HWr HP;obtain ⟨c0,c1,c2,c3,c4,c5,c6,c7,c8⟩:=HX3.cells;obtain ⟨f0,f1',f2',f3,f4,f5,f6,f7,f8⟩:=HX3.fz;unfold zcr;go_wp2_with fail;exact zah rfl rfl rfl rfl rfl (zar HX3 tk0) ⟨by rw [HU.out];rfl,zac HB3 (nL _) tk0⟩
 ·by_cases h117:chr s (b+1)=117
  ·have t1:(chr s (b+1)==117)=true:=by rw [h117];rfl
   have t2:(chr s (b+2)==123)=false:=bF (fun q=>hu ⟨h117,q⟩);have t3:(chr s (b+1)==101)=false:=by rw [h117];rfl
   have t4:(chr s (b+1)==102)=false:=by rw [h117];rfl
   have n1:¬chr s (b+1)=101:=by omega
   have n2:¬chr s (b+1)=102:=by omega
   clear h117;by_cases hc:0<=chr s (b+1)/\(cls (chr s (b+1)).toNat).2=0
   ·have hcl:=zbf s (b+1)
    have hb1:b+1<s.size:=zaz hc.1;have HE:Hid (zdA s b=.inl ⟨28,0,b,b+2,s.extract (b+1) (b+2),wd (cls (chr s (b+1)).toNat).1 0,wd (cls (chr s (b+1)).toNat).1 1,wd (cls (chr s (b+1)).toNat).1 2,wd (cls (chr s (b+1)).toNat).1 3⟩):=by show zdA s b=_;unfold zdA;rw [iN hu,iN n1,iN n2,iP hc]
    have HC:Hid (∀w,Cl 87 #[.int .i64 (chr s (b+1))] w (rB w (.tuple #[sv (cls (chr s (b+1)).toNat).1,.int .i64 0]))):=fun w=>by
     have h:=zbr (chr s (b+1)).toNat (by omega) w;rw [hc.2,show (((chr s (b+1)).toNat:Nat):Int)=chr s (b+1) from by omega] at h;exact h
    clear hc hu;generalize (cls (chr s (b+1)).toNat).1=x at *;go_enter Tryz.func64,Tryz.ntmps64;go_wp2_with fail;refine (HA1 _).mono ?_;rintro e w2 ⟨rfl,rfl⟩;go_wp2_with fail;refine (HA2 _).mono ?_;rintro e w2 ⟨rfl,rfl⟩;go_wp2_with fail;refine (HC _).mono ?_;rintro e w3 ⟨rfl,b3⟩;have HX3:Hid (TX w3 w.heap.size tk0/\TX w3 (w.heap.size+1) ⟨0,0,b,b+2,⟨#[]⟩,0,0,0,0⟩):=⟨HX.1.below b3,HX.2.below b3⟩;have HB3:Hid (Below w.heap.size w w3):=HB.trans (b3.mono HB.size);clear b3 HC HX HB;go_wp2_with fail;have HW4:Hid (TX (w3.alloc (.cells #[.int .u64 (wd x 0),.int .u64 (wd x 1),.int .u64 (wd x 2),.int .u64 (wd x 3)] 49)) w.heap.size tk0/\TX (w3.alloc (.cells #[.int .u64 (wd x 0),.int .u64 (wd x 1),.int .u64 (wd x 2),.int .u64 (wd x 3)] 49)) (w.heap.size+1) ⟨0,0,b,b+2,⟨#[]⟩,0,0,0,0⟩/\Holds (w3.alloc (.cells #[.int .u64 (wd x 0),.int .u64 (wd x 1),.int .u64 (wd x 2),.int .u64 (wd x 3)] 49)) w3.heap.size x/\Below w.heap.size w (w3.alloc (.cells #[.int .u64 (wd x 0),.int .u64 (wd x 1),.int .u64 (wd x 2),.int .u64 (wd x 3)] 49))):=⟨HX3.1.below (zaa _ _),HX3.2.below (zaa _ _),Holds.new w3 x,HB3.alloc HB3.size _⟩;generalize w3.alloc (.cells #[.int .u64 (wd x 0),.int .u64 (wd x 1),.int .u64 (wd x 2),.int .u64 (wd x 3)] 49)=w4 at *
    have HP:Hid (TX (p6 w4 (w.heap.size+1) x (s.extract (b+1) (b+2))).drew w.heap.size tk0/\TX (p6 w4 (w.heap.size+1) x (s.extract (b+1) (b+2))).drew (w.heap.size+1) ⟨28,0,b,b+2,s.extract (b+1) (b+2),wd x 0,wd x 1,wd x 2,wd x 3⟩/\Below w.heap.size w (p6 w4 (w.heap.size+1) x (s.extract (b+1) (b+2))).drew):=⟨(HW4.1.same (zhB (by omega) x (s.extract (b+1) (b+2)))).below (below_drewN (bR _ _) 1),(p6_tx HW4.2.1 x (s.extract (b+1) (b+2))).below (below_drewN (bR _ _) 1),below_drewN (zhC HW4.2.2.2 (by omega) x (s.extract (b+1) (b+2))) 1⟩;obtain ⟨l0,e0,e1,e2,e3,g0,g1,g2,g3⟩:=HW4.2.2.1;obtain ⟨c0,c1,c2,c3,c4,c5,c6,c7,c8⟩:=HW4.2.1.cells;obtain ⟨f0,f1',f2',f3,f4,f5,f6,f7,f8⟩:=HW4.2.1.fz;have ne1:¬w3.heap.size=w.heap.size+1:=by have:=HX3.2.lt;omega
    have ne2:¬w.heap.size+1=w3.heap.size:=by omega
    obtain ⟨j1,hj1⟩:∃j,j=b+1:=⟨_,rfl⟩;obtain ⟨j2,hj2⟩:∃j,j=b+2:=⟨_,rfl⟩;have u1:IntKind.i64.wrap ((b:Int)+1)=(j1:Int):=by rw [hj1,wI];omega
    have u2:IntKind.i64.wrap ((b:Int)+2)=(j2:Int):=by rw [hj2,wI];omega
    have y0:(0:Int)<=(j1:Int):=by omega
    have y1:(j1:Int)<=(j2:Int):=by omega
    have y2:(j2:Int)<=(s.size:Int):=by omega
    rw [<-hj1,<-hj2] at HP HE;clear hj1 hj2;clear HW4 HX3 HB3 HWr;go_region
    all_goals
     generalize (((((((w4.setCell ⟨w.heap.size+1,0,none⟩ (.int .i64 28)).setCell ⟨w.heap.size+1,5,none⟩ (.int .u64 (wd x 0))).setCell ⟨w.heap.size+1,6,none⟩ (.int .u64 (wd x 1))).setCell ⟨w.heap.size+1,7,none⟩ (.int .u64 (wd x 2))).setCell ⟨w.heap.size+1,8,none⟩ (.int .u64 (wd x 3))).setCell ⟨w.heap.size+1,4,none⟩ (.string (s.extract j1 j2)))).drew=w6 at *;clear e0 e1 e2 e3 g0 g1 g2 g3 c0 c1 c2 c3 c4 c5 c6 c7 c8 f0 f1' f2' f3 f4 f5 f6 f7 f8;obtain ⟨c0,c1,c2,c3,c4,c5,c6,c7,c8⟩:=HP.2.1.cells;obtain ⟨d0,d1,d2,d3,d4,d5,d6,d7,d8⟩:=HP.1.cells;obtain ⟨f0,f1',f2',f3,f4,f5,f6,f7,f8⟩:=HP.1.fz;go_wp2_with fail;exact zah (t:=⟨28,0,b,b+2,s.extract j1 j2,wd x 0,wd x 1,wd x 2,wd x 3⟩) (p:=0) (e:=0) rfl rfl rfl rfl rfl (zar HP.1 ⟨28,0,b,b+2,s.extract j1 j2,wd x 0,wd x 1,wd x 2,wd x 3⟩) ⟨by rw [HE.out];rfl,zac HP.2.2 (nL _) ⟨28,0,b,b+2,s.extract j1 j2,wd x 0,wd x 1,wd x 2,wd x 3⟩⟩
   ·have HE:Hid (zdA s b=.inr (b,10)):=by show zdA s b=_;unfold zdA;rw [iN hu,iN n1,iN n2,iN hc]
    have hcl:=zbf s (b+1);have HC:Hid (∀w,Cl 87 #[.int .i64 (chr s (b+1))] w fun e w'=>(∃x,e=.returned (.tuple #[sv x,.int .i64 10]))/\Below w.heap.size w w'):=fun w=>by
     by_cases h0:chr s (b+1)<0
     ·exact (zcX _ w h0).mono fun e w' ⟨h1,h2⟩=>⟨⟨_,h1⟩,h2⟩
     ·have h:=zbr (chr s (b+1)).toNat (by omega) w
      rw [show (((chr s (b+1)).toNat:Nat):Int)=chr s (b+1) from by omega] at h;have h10:(cls (chr s (b+1)).toNat).2=10:=(zjO _).resolve_left (fun q=>hc ⟨by omega,q⟩);rw [h10] at h;exact h.mono fun e w' ⟨h1,h2⟩=>⟨⟨_,h1⟩,h2⟩
    clear hc hu;go_enter Tryz.func64,Tryz.ntmps64;go_wp2_with fail;refine (HA1 _).mono ?_;rintro e w2 ⟨rfl,rfl⟩;go_wp2_with fail;refine (HA2 _).mono ?_;rintro e w2 ⟨rfl,rfl⟩;go_wp2_with fail;refine (HC _).mono ?_;rintro e w3 ⟨⟨x,rfl⟩,b3⟩;have HX3:Hid (TX w3 w.heap.size tk0/\TX w3 (w.heap.size+1) ⟨0,0,b,b+2,⟨#[]⟩,0,0,0,0⟩):=⟨HX.1.below b3,HX.2.below b3⟩;have HB3:Hid (Below w.heap.size w w3):=HB.trans (b3.mono HB.size);clear b3 HC HX HB;go_wp2_with fail;refine (HWr _ _ _).mono ?_;rintro e w4 ⟨rfl,b4⟩;have HX4:Hid (TX w4 w.heap.size tk0):=HX3.1.below ((zaa _ _).trans (b4.mono (zaa _ _).size));have HB4:Hid (Below w.heap.size w w4):=HB3.trans (((zaa _ _).trans (b4.mono (zaa _ _).size)).mono HB3.size);clear b4 HWr;obtain ⟨c0,c1,c2,c3,c4,c5,c6,c7,c8⟩:=HX4.cells;obtain ⟨f0,f1',f2',f3,f4,f5,f6,f7,f8⟩:=HX4.fz;go_wp2_with fail;exact zah rfl rfl rfl rfl rfl (zar HX4 tk0) ⟨by rw [HE.out];rfl,zac HB4 (nL _) tk0⟩
  ·have t1:(chr s (b+1)==117)=false:=bF h117
   by_cases n1:chr s (b+1)=101
   ·have HE:Hid (zdA s b=.inl ⟨29,0,b,b+2,⟨#[]⟩,0,0,0,0⟩):=by show zdA s b=_;unfold zdA;rw [iN hu,iP n1]
    have t3:(chr s (b+1)==101)=true:=by rw [n1];rfl
    clear hu n1 HX HB;go_enter Tryz.func64,Tryz.ntmps64;go_wp2_with fail;refine (HA1 _).mono ?_;rintro e w2 ⟨rfl,rfl⟩;go_wp2_with fail;exact zah (t:=⟨29,0,b,b+2,⟨#[]⟩,0,0,0,0⟩) rfl rfl rfl rfl rfl ((TX.new w ⟨29,0,b,b+2,⟨#[]⟩,0,0,0,0⟩).below (zaa _ _)) ⟨by rw [HE.out];rfl,(zaa w _).alloc (zaa w _).size _⟩
   have t3:(chr s (b+1)==101)=false:=bF n1;by_cases n2:chr s (b+1)=102
   ·have HE:Hid (zdA s b=.inl ⟨30,0,b,b+2,⟨#[]⟩,0,0,0,0⟩):=by show zdA s b=_;unfold zdA;rw [iN hu,iN n1,iP n2]
    have t4:(chr s (b+1)==102)=true:=by rw [n2];rfl
    clear hu n1 n2 HX HB;go_enter Tryz.func64,Tryz.ntmps64;go_wp2_with fail;refine (HA1 _).mono ?_;rintro e w2 ⟨rfl,rfl⟩;go_wp2_with fail;exact zah (t:=⟨30,0,b,b+2,⟨#[]⟩,0,0,0,0⟩) rfl rfl rfl rfl rfl ((TX.new w ⟨30,0,b,b+2,⟨#[]⟩,0,0,0,0⟩).below (zaa _ _)) ⟨by rw [HE.out];rfl,(zaa w _).alloc (zaa w _).size _⟩
   have t4:(chr s (b+1)==102)=false:=bF n2;by_cases hc:0<=chr s (b+1)/\(cls (chr s (b+1)).toNat).2=0
   ·have hcl:=zbf s (b+1)
    have hb1:b+1<s.size:=zaz hc.1;have HE:Hid (zdA s b=.inl ⟨28,0,b,b+2,s.extract (b+1) (b+2),wd (cls (chr s (b+1)).toNat).1 0,wd (cls (chr s (b+1)).toNat).1 1,wd (cls (chr s (b+1)).toNat).1 2,wd (cls (chr s (b+1)).toNat).1 3⟩):=by show zdA s b=_;unfold zdA;rw [iN hu,iN n1,iN n2,iP hc]
    have HC:Hid (∀w,Cl 87 #[.int .i64 (chr s (b+1))] w (rB w (.tuple #[sv (cls (chr s (b+1)).toNat).1,.int .i64 0]))):=fun w=>by
     have h:=zbr (chr s (b+1)).toNat (by omega) w;rw [hc.2,show (((chr s (b+1)).toNat:Nat):Int)=chr s (b+1) from by omega] at h;exact h
    clear hc hu;generalize (cls (chr s (b+1)).toNat).1=x at *;go_enter Tryz.func64,Tryz.ntmps64;go_wp2_with fail;refine (HA1 _).mono ?_;rintro e w2 ⟨rfl,rfl⟩;go_wp2_with fail;refine (HC _).mono ?_;rintro e w3 ⟨rfl,b3⟩;have HX3:Hid (TX w3 w.heap.size tk0/\TX w3 (w.heap.size+1) ⟨0,0,b,b+2,⟨#[]⟩,0,0,0,0⟩):=⟨HX.1.below b3,HX.2.below b3⟩;have HB3:Hid (Below w.heap.size w w3):=HB.trans (b3.mono HB.size);clear b3 HC HX HB;go_wp2_with fail;have HW4:Hid (TX (w3.alloc (.cells #[.int .u64 (wd x 0),.int .u64 (wd x 1),.int .u64 (wd x 2),.int .u64 (wd x 3)] 49)) w.heap.size tk0/\TX (w3.alloc (.cells #[.int .u64 (wd x 0),.int .u64 (wd x 1),.int .u64 (wd x 2),.int .u64 (wd x 3)] 49)) (w.heap.size+1) ⟨0,0,b,b+2,⟨#[]⟩,0,0,0,0⟩/\Holds (w3.alloc (.cells #[.int .u64 (wd x 0),.int .u64 (wd x 1),.int .u64 (wd x 2),.int .u64 (wd x 3)] 49)) w3.heap.size x/\Below w.heap.size w (w3.alloc (.cells #[.int .u64 (wd x 0),.int .u64 (wd x 1),.int .u64 (wd x 2),.int .u64 (wd x 3)] 49))):=⟨HX3.1.below (zaa _ _),HX3.2.below (zaa _ _),Holds.new w3 x,HB3.alloc HB3.size _⟩;generalize w3.alloc (.cells #[.int .u64 (wd x 0),.int .u64 (wd x 1),.int .u64 (wd x 2),.int .u64 (wd x 3)] 49)=w4 at *
    have HP:Hid (TX (p6 w4 (w.heap.size+1) x (s.extract (b+1) (b+2))).drew w.heap.size tk0/\TX (p6 w4 (w.heap.size+1) x (s.extract (b+1) (b+2))).drew (w.heap.size+1) ⟨28,0,b,b+2,s.extract (b+1) (b+2),wd x 0,wd x 1,wd x 2,wd x 3⟩/\Below w.heap.size w (p6 w4 (w.heap.size+1) x (s.extract (b+1) (b+2))).drew):=⟨(HW4.1.same (zhB (by omega) x (s.extract (b+1) (b+2)))).below (below_drewN (bR _ _) 1),(p6_tx HW4.2.1 x (s.extract (b+1) (b+2))).below (below_drewN (bR _ _) 1),below_drewN (zhC HW4.2.2.2 (by omega) x (s.extract (b+1) (b+2))) 1⟩;obtain ⟨l0,e0,e1,e2,e3,g0,g1,g2,g3⟩:=HW4.2.2.1;obtain ⟨c0,c1,c2,c3,c4,c5,c6,c7,c8⟩:=HW4.2.1.cells;obtain ⟨f0,f1',f2',f3,f4,f5,f6,f7,f8⟩:=HW4.2.1.fz;have ne1:¬w3.heap.size=w.heap.size+1:=by have:=HX3.2.lt;omega
    have ne2:¬w.heap.size+1=w3.heap.size:=by omega
    obtain ⟨j1,hj1⟩:∃j,j=b+1:=⟨_,rfl⟩;obtain ⟨j2,hj2⟩:∃j,j=b+2:=⟨_,rfl⟩;have u1:IntKind.i64.wrap ((b:Int)+1)=(j1:Int):=by rw [hj1,wI];omega
    have u2:IntKind.i64.wrap ((b:Int)+2)=(j2:Int):=by rw [hj2,wI];omega
    have y0:(0:Int)<=(j1:Int):=by omega
    have y1:(j1:Int)<=(j2:Int):=by omega
    have y2:(j2:Int)<=(s.size:Int):=by omega
    rw [<-hj1,<-hj2] at HP HE;clear hj1 hj2;clear HW4 HX3 HB3 HWr;go_region
    all_goals
     generalize (((((((w4.setCell ⟨w.heap.size+1,0,none⟩ (.int .i64 28)).setCell ⟨w.heap.size+1,5,none⟩ (.int .u64 (wd x 0))).setCell ⟨w.heap.size+1,6,none⟩ (.int .u64 (wd x 1))).setCell ⟨w.heap.size+1,7,none⟩ (.int .u64 (wd x 2))).setCell ⟨w.heap.size+1,8,none⟩ (.int .u64 (wd x 3))).setCell ⟨w.heap.size+1,4,none⟩ (.string (s.extract j1 j2)))).drew=w6 at *;clear e0 e1 e2 e3 g0 g1 g2 g3 c0 c1 c2 c3 c4 c5 c6 c7 c8 f0 f1' f2' f3 f4 f5 f6 f7 f8;obtain ⟨c0,c1,c2,c3,c4,c5,c6,c7,c8⟩:=HP.2.1.cells;obtain ⟨d0,d1,d2,d3,d4,d5,d6,d7,d8⟩:=HP.1.cells;obtain ⟨f0,f1',f2',f3,f4,f5,f6,f7,f8⟩:=HP.1.fz;go_wp2_with fail;exact zah (t:=⟨28,0,b,b+2,s.extract j1 j2,wd x 0,wd x 1,wd x 2,wd x 3⟩) (p:=0) (e:=0) rfl rfl rfl rfl rfl (zar HP.1 ⟨28,0,b,b+2,s.extract j1 j2,wd x 0,wd x 1,wd x 2,wd x 3⟩) ⟨by rw [HE.out];rfl,zac HP.2.2 (nL _) ⟨28,0,b,b+2,s.extract j1 j2,wd x 0,wd x 1,wd x 2,wd x 3⟩⟩
   ·have HE:Hid (zdA s b=.inr (b,10)):=by show zdA s b=_;unfold zdA;rw [iN hu,iN n1,iN n2,iN hc]
    have hcl:=zbf s (b+1);have HC:Hid (∀w,Cl 87 #[.int .i64 (chr s (b+1))] w fun e w'=>(∃x,e=.returned (.tuple #[sv x,.int .i64 10]))/\Below w.heap.size w w'):=fun w=>by
     by_cases h0:chr s (b+1)<0
     ·exact (zcX _ w h0).mono fun e w' ⟨h1,h2⟩=>⟨⟨_,h1⟩,h2⟩
     ·have h:=zbr (chr s (b+1)).toNat (by omega) w
      rw [show (((chr s (b+1)).toNat:Nat):Int)=chr s (b+1) from by omega] at h;have h10:(cls (chr s (b+1)).toNat).2=10:=(zjO _).resolve_left (fun q=>hc ⟨by omega,q⟩);rw [h10] at h;exact h.mono fun e w' ⟨h1,h2⟩=>⟨⟨_,h1⟩,h2⟩
    clear hc hu;go_enter Tryz.func64,Tryz.ntmps64;go_wp2_with fail;refine (HA1 _).mono ?_;rintro e w2 ⟨rfl,rfl⟩;go_wp2_with fail;refine (HC _).mono ?_;rintro e w3 ⟨⟨x,rfl⟩,b3⟩;have HX3:Hid (TX w3 w.heap.size tk0/\TX w3 (w.heap.size+1) ⟨0,0,b,b+2,⟨#[]⟩,0,0,0,0⟩):=⟨HX.1.below b3,HX.2.below b3⟩;have HB3:Hid (Below w.heap.size w w3):=HB.trans (b3.mono HB.size);clear b3 HC HX HB;go_wp2_with fail;refine (HWr _ _ _).mono ?_;rintro e w4 ⟨rfl,b4⟩;have HX4:Hid (TX w4 w.heap.size tk0):=HX3.1.below ((zaa _ _).trans (b4.mono (zaa _ _).size));have HB4:Hid (Below w.heap.size w w4):=HB3.trans (((zaa _ _).trans (b4.mono (zaa _ _).size)).mono HB3.size);clear b4 HWr;obtain ⟨c0,c1,c2,c3,c4,c5,c6,c7,c8⟩:=HX4.cells;obtain ⟨f0,f1',f2',f3,f4,f5,f6,f7,f8⟩:=HX4.fz;go_wp2_with fail;exact zah rfl rfl rfl rfl rfl (zar HX4 tk0) ⟨by rw [HE.out];rfl,zac HB4 (nL _) tk0⟩
theorem zjP (s:ByteArray) (b:Nat) (hs:s.size<=140737488355328) (hb:b<s.size) (w:World):Calls Tryz.prog 65 #[.string s,.int .i64 b] w (rB w (zcr (zd4 s b))):=by
 have HX:Hid (TX (w.alloc (tkO tk0)) w.heap.size tk0):=TX.new w tk0;have HB:Hid (Below w.heap.size w (w.alloc (tkO tk0))):=zaa w _;have HWr:Hid (∀i e w,Cl 58 #[.int .i64 i,.int .i64 e] w fun e' w'=>e'=.returned (.tuple #[tkG tk0,.int .i64 i,.int .i64 e])/\Below w.heap.size w w'):=fun i e w=>zbO i e w
 have HA:Hid (∀w,Cl 55 #[.string s,.int .i64 ((b:Int)+1)] w (rU w (.int .i64 (chr s (b+1))))):=fun w=>zaZ s (b+1) w
 by_cases h43:chr s (b+1)=43
 ·have h1:b+1<s.size:=zaz (by omega)
  have t1:(chr s (b+1)==43)=true:=by rw [h43];rfl
  cases hq:zbR s (b+2) 50 with
  | inr e0 =>
   have HE:Hid (zd4 s b=.inr (b,e0)):=by show zd4 s b=_;unfold zd4;simp only [h43,if_true,hq,true_or]
   have hne:e0≠0:=zfp hq;have t9:(e0 != 0)=true:=by rw [bne,bF hne];rfl
   have HNu:=(show Hid (∀w,Calls Tryz.prog 60 #[.string s,.int .i64 b,.int .i64 ((b:Int)+2),.int .i64 50] w (rU w (.tuple #[.int .i64 0,.int .i64 e0]))) from fun w=>by
    have h:=zbq s b (b+2) 50 hs (by omega) w;rw [hq] at h;exact h)
   clear hq hne;go_enter Tryz.func65,Tryz.ntmps65;go_wp2_with fail;refine (HA _).mono ?_;rintro e w ⟨rfl,rfl⟩;go_wp2_with fail;refine (HNu _).mono ?_;rintro e w2 ⟨rfl,rfl⟩;clear HNu;go_wp2_with fail;refine (HWr _ _ _).mono ?_;rintro e w3 ⟨rfl,b3⟩;have HX3:=hO (HX.below b3);have HB3:Hid (Below w.heap.size w w3):=HB.trans (b3.mono HB.size);clear b3 HWr;obtain ⟨c0,c1,c2,c3,c4,c5,c6,c7,c8⟩:=HX3.cells;obtain ⟨f0,f1,f2,f3,f4,f5,f6,f7,f8⟩:=HX3.fz;go_wp2_with fail;exact zah rfl rfl rfl rfl rfl (zar HX3 tk0) ⟨by rw [HE.out];rfl,zac HB3 (nL _) tk0⟩
  | inl n0 =>
   have HE:Hid (zd4 s b=.inl ⟨14,n0,b,spN dgB s (b+2),⟨#[]⟩,0,0,0,0⟩):=by show zd4 s b=_;unfold zd4;simp only [h43,if_true,hq,true_or]
   have HNu:=(show Hid (∀w,Calls Tryz.prog 60 #[.string s,.int .i64 b,.int .i64 ((b:Int)+2),.int .i64 50] w (rU w (.tuple #[.int .i64 n0,.int .i64 0]))) from fun w=>by
    have h:=zbq s b (b+2) 50 hs (by omega) w;rw [hq] at h;exact h)
   have HDg:Hid (∀w,Cl 61 #[.string s,.int .i64 ((b:Int)+2)] w (rU w (.int .i64 (spN dgB s (b+2))))):=fun w=>zci s (b+2) hs (by omega) w
   clear hq;go_enter Tryz.func65,Tryz.ntmps65;go_wp2_with fail;refine (HA _).mono ?_;rintro e w ⟨rfl,rfl⟩;go_wp2_with fail;refine (HNu _).mono ?_;rintro e w2 ⟨rfl,rfl⟩;clear HNu;go_wp2_with fail;refine (HDg _).mono ?_;rintro e w3 ⟨rfl,rfl⟩;clear HDg;obtain ⟨c0,c1,c2,c3,c4,c5,c6,c7,c8⟩:=HX.cells;obtain ⟨f0,f1,f2,f3,f4,f5,f6,f7,f8⟩:=HX.fz;go_wp2_with fail;exact zah rfl rfl rfl rfl rfl (TX.new w ⟨14,n0,b,spN dgB s (b+2),⟨#[]⟩,0,0,0,0⟩) ⟨by rw [HE.out];rfl,zaa w _⟩
 ·have t1:(chr s (b+1)==43)=false:=bF h43
  by_cases h45:chr s (b+1)=45
  ·have h1:b+1<s.size:=zaz (by omega)
   have t2:(chr s (b+1)==45)=true:=by rw [h45];rfl
   cases hq:zbR s (b+2) 50 with
   | inr e0 =>
    have HE:Hid (zd4 s b=.inr (b,e0)):=by show zd4 s b=_;unfold zd4;simp only [h45,if_true,hq,or_true]
    have hne:e0≠0:=zfp hq;have t9:(e0 != 0)=true:=by rw [bne,bF hne];rfl
    have HNu:=(show Hid (∀w,Calls Tryz.prog 60 #[.string s,.int .i64 b,.int .i64 ((b:Int)+2),.int .i64 50] w (rU w (.tuple #[.int .i64 0,.int .i64 e0]))) from fun w=>by
     have h:=zbq s b (b+2) 50 hs (by omega) w;rw [hq] at h;exact h)
    clear hq hne;go_enter Tryz.func65,Tryz.ntmps65;go_wp2_with fail;refine (HA _).mono ?_;rintro e w ⟨rfl,rfl⟩;go_wp2_with fail;refine (HA _).mono ?_;rintro e w ⟨rfl,rfl⟩;clear HA;go_wp2_with fail;refine (HNu _).mono ?_;rintro e w2 ⟨rfl,rfl⟩;clear HNu;go_wp2_with fail;refine (HWr _ _ _).mono ?_;rintro e w3 ⟨rfl,b3⟩;have HX3:=hO (HX.below b3);have HB3:Hid (Below w.heap.size w w3):=HB.trans (b3.mono HB.size);clear b3 HWr;obtain ⟨c0,c1,c2,c3,c4,c5,c6,c7,c8⟩:=HX3.cells;obtain ⟨f0,f1,f2,f3,f4,f5,f6,f7,f8⟩:=HX3.fz;go_wp2_with fail;exact zah rfl rfl rfl rfl rfl (zar HX3 tk0) ⟨by rw [HE.out];rfl,zac HB3 (nL _) tk0⟩
   | inl n0 =>
    have HE:Hid (zd4 s b=.inl ⟨15,n0,b,spN dgB s (b+2),⟨#[]⟩,0,0,0,0⟩):=by show zd4 s b=_;unfold zd4;simp only [h45,if_true,hq,or_true,iN (show ¬(45:Int)=43 by decide)]
    have HNu:=(show Hid (∀w,Calls Tryz.prog 60 #[.string s,.int .i64 b,.int .i64 ((b:Int)+2),.int .i64 50] w (rU w (.tuple #[.int .i64 n0,.int .i64 0]))) from fun w=>by
     have h:=zbq s b (b+2) 50 hs (by omega) w;rw [hq] at h;exact h)
    have HDg:Hid (∀w,Cl 61 #[.string s,.int .i64 ((b:Int)+2)] w (rU w (.int .i64 (spN dgB s (b+2))))):=fun w=>zci s (b+2) hs (by omega) w
    clear hq;go_enter Tryz.func65,Tryz.ntmps65;go_wp2_with fail;refine (HA _).mono ?_;rintro e w ⟨rfl,rfl⟩;go_wp2_with fail;refine (HA _).mono ?_;rintro e w ⟨rfl,rfl⟩;clear HA;go_wp2_with fail;refine (HNu _).mono ?_;rintro e w2 ⟨rfl,rfl⟩;clear HNu;go_wp2_with fail;refine (HDg _).mono ?_;rintro e w3 ⟨rfl,rfl⟩;clear HDg;obtain ⟨c0,c1,c2,c3,c4,c5,c6,c7,c8⟩:=HX.cells;obtain ⟨f0,f1,f2,f3,f4,f5,f6,f7,f8⟩:=HX.fz;go_wp2_with fail;exact zah rfl rfl rfl rfl rfl (TX.new w ⟨15,n0,b,spN dgB s (b+2),⟨#[]⟩,0,0,0,0⟩) ⟨by rw [HE.out];rfl,zaa w _⟩
  ·have t2:(chr s (b+1)==45)=false:=bF h45
   cases hq:zbR s (b+1) 50 with
   | inr e0 =>
    have HE:Hid (zd4 s b=.inr (b,e0)):=by show zd4 s b=_;unfold zd4;simp only [hq,iN (show ¬(chr s (b+1)=43∨chr s (b+1)=45) by omega)]
    have hne:e0≠0:=zfp hq;have t9:(e0 != 0)=true:=by rw [bne,bF hne];rfl
    have HNu:=(show Hid (∀w,Calls Tryz.prog 60 #[.string s,.int .i64 b,.int .i64 ((b:Int)+1),.int .i64 50] w (rU w (.tuple #[.int .i64 0,.int .i64 e0]))) from fun w=>by
     have h:=zbq s b (b+1) 50 hs (by omega) w;rw [hq] at h;exact h)
    clear hq hne;go_enter Tryz.func65,Tryz.ntmps65;go_wp2_with fail;refine (HA _).mono ?_;rintro e w ⟨rfl,rfl⟩;go_wp2_with fail;refine (HA _).mono ?_;rintro e w ⟨rfl,rfl⟩;clear HA;go_wp2_with fail;refine (HNu _).mono ?_;rintro e w2 ⟨rfl,rfl⟩;clear HNu;go_wp2_with fail;refine (HWr _ _ _).mono ?_;rintro e w3 ⟨rfl,b3⟩;have HX3:=hO (HX.below b3);have HB3:Hid (Below w.heap.size w w3):=HB.trans (b3.mono HB.size);clear b3 HWr;obtain ⟨c0,c1,c2,c3,c4,c5,c6,c7,c8⟩:=HX3.cells;obtain ⟨f0,f1,f2,f3,f4,f5,f6,f7,f8⟩:=HX3.fz;go_wp2_with fail;exact zah rfl rfl rfl rfl rfl (zar HX3 tk0) ⟨by rw [HE.out];rfl,zac HB3 (nL _) tk0⟩
   | inl n0 =>
    have HE:Hid (zd4 s b=.inl ⟨13,n0,b,spN dgB s (b+1),⟨#[]⟩,0,0,0,0⟩):=by show zd4 s b=_;unfold zd4;simp only [iN h43,iN h45,hq,iN (show ¬(chr s (b+1)=43∨chr s (b+1)=45) by omega)]
    have HNu:=(show Hid (∀w,Calls Tryz.prog 60 #[.string s,.int .i64 b,.int .i64 ((b:Int)+1),.int .i64 50] w (rU w (.tuple #[.int .i64 n0,.int .i64 0]))) from fun w=>by
     have h:=zbq s b (b+1) 50 hs (by omega) w;rw [hq] at h;exact h)
    have HDg:Hid (∀w,Cl 61 #[.string s,.int .i64 ((b:Int)+1)] w (rU w (.int .i64 (spN dgB s (b+1))))):=fun w=>zci s (b+1) hs (by omega) w
    clear hq;go_enter Tryz.func65,Tryz.ntmps65;go_wp2_with fail;refine (HA _).mono ?_;rintro e w ⟨rfl,rfl⟩;go_wp2_with fail;refine (HA _).mono ?_;rintro e w ⟨rfl,rfl⟩;clear HA;go_wp2_with fail;refine (HNu _).mono ?_;rintro e w2 ⟨rfl,rfl⟩;clear HNu;go_wp2_with fail;refine (HDg _).mono ?_;rintro e w3 ⟨rfl,rfl⟩;clear HDg;obtain ⟨c0,c1,c2,c3,c4,c5,c6,c7,c8⟩:=HX.cells;obtain ⟨f0,f1,f2,f3,f4,f5,f6,f7,f8⟩:=HX.fz;go_wp2_with fail;exact zah rfl rfl rfl rfl rfl (TX.new w ⟨13,n0,b,spN dgB s (b+1),⟨#[]⟩,0,0,0,0⟩) ⟨by rw [HE.out];rfl,zaa w _⟩
theorem zjQ (s:ByteArray) (b:Nat) (hs:s.size<=140737488355000) (hb:b+1<s.size) (w:World):Calls Tryz.prog 66 #[.string s,.int .i64 b] w (rB w (zcr (zeY s b))):=by
 have HWr:Hid (∀i e w,Cl 58 #[.int .i64 i,.int .i64 e] w fun e' w'=>e'=.returned (.tuple #[tkG tk0,.int .i64 i,.int .i64 e])/\Below w.heap.size w w'):=fun i e w=>zbO i e w
 have HA2:Hid (∀w,Cl 55 #[.string s,.int .i64 ((b:Int)+2)] w (rU w (.int .i64 (chr s (b+2))))):=fun w=>zaZ s (b+2) w
 have HA:Hid (∀k w,Cl 55 #[.string s,.int .i64 ((k:Nat):Int)] w (rU w (.int .i64 (chr s k)))):=fun k w=>zaZ s k w
 have HH:Hid (∀c w,Cl 56 #[.int .i64 c] w (rU w (.bool (hdB c)))):=fun c w=>zfo c w
 have HR:Hid (∀w,Cl 57 #[.string s,.int .i64 ((b:Int)+2)] w (rU w (.int .i64 (spN nmB s (b+2))))):=fun w=>ziX s (b+2) (by omega) (by omega) w
 have hge:=zbc nmB s (by decide) (b+2);have hle:=zbE nmB s (by decide) (b+2) (by omega)
 cases hh:hdB (chr s (b+2)) with
 | false =>
  have HE:Hid (zeY s b=.inl ⟨21,0,b,b+2,⟨#[]⟩,0,0,0,0⟩):=by show zeY s b=_;unfold zeY;rw [iN (by rw [hh];simp)]
  go_enter Tryz.func66,Tryz.ntmps66;go_wp2_with fail;refine (HA2 _).mono ?_;rintro e w2 ⟨rfl,rfl⟩;go_wp2_with fail;refine (HH _ _).mono ?_;rintro e w2 ⟨rfl,rfl⟩;rw [hh];clear HA HA2 HH HR hh;go_wp2_with fail;exact zah (t:=⟨21,0,b,b+2,⟨#[]⟩,0,0,0,0⟩) rfl rfl rfl rfl rfl ((TX.new w ⟨21,0,b,b+2,⟨#[]⟩,0,0,0,0⟩).below (zaa _ _)) ⟨by rw [HE.out];rfl,(zaa w _).alloc (zaa w _).size _⟩
 | true =>
  obtain ⟨n,hn⟩:∃n,n=spN nmB s (b+2):=⟨_,rfl⟩;have HU:Hid (zeY s b=if chr s n=58 then (if 32<n - b - 2 then .inr (b+2,2) else .inl ⟨21,0,b,n+1,s.extract (b+2) n,0,0,0,0⟩) else .inl ⟨21,0,b,b+2,⟨#[]⟩,0,0,0,0⟩):=by
   show zeY s b=_
   unfold zeY;rw [<-hn];by_cases q:chr s n=58
   ·rw [iP ⟨hh,q⟩,iP q]
   ·rw [iN (fun z=>q z.2),iN q]
  rw [<-hn] at HR hge hle;clear hn;by_cases h58:chr s n=58
  ·have t1:(chr s n==58)=true:=by rw [h58];rfl
   have u1:IntKind.i64.wrap ((n:Int) - (b:Int))=(n:Int) - (b:Int):=by rw [wI];omega
   have u2:IntKind.i64.wrap ((n:Int) - (b:Int) - 2)=((n - b - 2:Nat):Int):=by rw [wI];omega
   by_cases h32:32<n - b - 2
   ·have HE:Hid (zeY s b=.inr (b+2,2)):=by show zeY s b=_;rw [HU.out,iP h58,iP h32]
    have HX:Hid (TX ((w.alloc (tkO tk0)).alloc (tkO ⟨21,0,b,b+2,⟨#[]⟩,0,0,0,0⟩)) w.heap.size tk0):=(TX.new w _).below (zaa _ _);have HB:Hid (Below w.heap.size w ((w.alloc (tkO tk0)).alloc (tkO ⟨21,0,b,b+2,⟨#[]⟩,0,0,0,0⟩))):=(zaa w _).alloc (zaa w _).size _;obtain ⟨m,hm⟩:∃m,m=n - b - 2:=⟨_,rfl⟩;rw [<-hm] at u2 h32;have t2:decide (32<m)=true:=decide_eq_true h32;clear hm HU h58;go_enter Tryz.func66,Tryz.ntmps66;go_wp2_with fail;refine (HA2 _).mono ?_;rintro e w2 ⟨rfl,rfl⟩;go_wp2_with fail;refine (HH _ _).mono ?_;rintro e w2 ⟨rfl,rfl⟩;rw [hh];go_wp2_with fail;refine (HR _).mono ?_;rintro e w2 ⟨rfl,rfl⟩;go_wp2_with fail;refine (HA _ _).mono ?_;rintro e w2 ⟨rfl,rfl⟩;clear HA HA2 HH HR hh;go_wp2_with fail;refine (HWr _ _ _).mono ?_;rintro e w3 ⟨rfl,b3⟩;have HX3:=hO (HX.below b3);have HB3:Hid (Below w.heap.size w w3):=HB.trans (b3.mono HB.size);clear b3 HWr HX HB;obtain ⟨c0,c1,c2,c3,c4,c5,c6,c7,c8⟩:=HX3.cells;obtain ⟨f0,f1,f2,f3,f4,f5,f6,f7,f8⟩:=HX3.fz;go_wp2_with fail;exact zah rfl rfl rfl rfl rfl (zar HX3 tk0) ⟨by rw [HE.out];rfl,zac HB3 (nL _) tk0⟩
   ·have HE:Hid (zeY s b=.inl ⟨21,0,b,n+1,s.extract (b+2) n,0,0,0,0⟩):=by show zeY s b=_;rw [HU.out,iP h58,iN h32]
    obtain ⟨m,hm⟩:∃m,m=n - b - 2:=⟨_,rfl⟩;rw [<-hm] at u2 h32;have t2:decide (32<m)=false:=dF h32;have z1:(0:Int)<=(b:Int)+2:=by omega
    have z2:(b:Int)+2<=(n:Int):=by omega
    have z3:(n:Int)<=(s.size:Int):=by omega
    clear hm HU h58;go_enter Tryz.func66,Tryz.ntmps66;go_wp2_with fail;refine (HA2 _).mono ?_;rintro e w2 ⟨rfl,rfl⟩;go_wp2_with fail;refine (HH _ _).mono ?_;rintro e w2 ⟨rfl,rfl⟩;rw [hh];go_wp2_with fail;refine (HR _).mono ?_;rintro e w2 ⟨rfl,rfl⟩;go_wp2_with fail;refine (HA _ _).mono ?_;rintro e w2 ⟨rfl,rfl⟩;clear HA HA2 HH HR hh HWr;go_wp2_with fail;exact zah (t:=⟨21,0,b,n+1,s.extract (b+2) n,0,0,0,0⟩) rfl rfl rfl rfl rfl ((TX.new w ⟨21,0,b,n+1,s.extract (b+2) n,0,0,0,0⟩).below (zaa _ _)) ⟨by rw [HE.out];rfl,(zaa w _).alloc (zaa w _).size _⟩
  ·have t1:(chr s n==58)=false:=bF h58
   have HE:Hid (zeY s b=.inl ⟨21,0,b,b+2,⟨#[]⟩,0,0,0,0⟩):=by show zeY s b=_;rw [HU.out,iN h58]
   clear HU h58;go_enter Tryz.func66,Tryz.ntmps66;go_wp2_with fail;refine (HA2 _).mono ?_;rintro e w2 ⟨rfl,rfl⟩;go_wp2_with fail;refine (HH _ _).mono ?_;rintro e w2 ⟨rfl,rfl⟩;rw [hh];go_wp2_with fail;refine (HR _).mono ?_;rintro e w2 ⟨rfl,rfl⟩;go_wp2_with fail;refine (HA _ _).mono ?_;rintro e w2 ⟨rfl,rfl⟩;clear HA HA2 HH HR hh HWr;go_wp2_with fail;exact zah (t:=⟨21,0,b,b+2,⟨#[]⟩,0,0,0,0⟩) rfl rfl rfl rfl rfl ((TX.new w ⟨21,0,b,b+2,⟨#[]⟩,0,0,0,0⟩).below (zaa _ _)) ⟨by rw [HE.out];rfl,(zaa w _).alloc (zaa w _).size _⟩
def mbV:Rd (BitVec 256×Nat)->Value
 | .inl (x,n)=>.tuple #[sv x,.int .i64 n,.agg #[.int .i64 0,.int .i64 0]]
 | .inr (a,c)=>.tuple #[sv 0#256,.int .i64 0,.agg #[.int .i64 a,.int .i64 c]]
structure FHolds (w:World) (b:Nat) (p q:Int):Prop where
 lt:b<w.heap.size
 c0:w.cell? ⟨b,0,none⟩=some (.int .i64 p)
 c1:w.cell? ⟨b,1,none⟩=some (.int .i64 q)
 f0:w.frozen? ⟨b,0,none⟩=false
 f1:w.frozen? ⟨b,1,none⟩=false
theorem FHolds.below {B:Nat} {w w':World} {b:Nat} {p q:Int} (h:FHolds w b p q) (hb:Below B w w') (hB:b<B):FHolds w' b p q :=
 ⟨nM h.lt hb.size,(hb.cell (p:=⟨b,0,none⟩) hB).trans h.c0,(hb.cell (p:=⟨b,1,none⟩) hB).trans h.c1,(hb.frozen (p:=⟨b,0,none⟩) hB).trans h.f0,(hb.frozen (p:=⟨b,1,none⟩) hB).trans h.f1⟩
theorem FHolds.new (w:World) (p q:Int):FHolds (w.alloc (.cells #[.int .i64 p,.int .i64 q] 27)) w.heap.size p q:=by
 constructor <;> simp [go_sem]
abbrev fz:Obj:=.cells #[.int .i64 0,.int .i64 0] 27
theorem zcQ (w:World):Holds ((w.alloc z4).alloc fz) w.heap.size 0#256/\FHolds ((w.alloc z4).alloc fz) (w.heap.size+1) 0 0/\Below w.heap.size w ((w.alloc z4).alloc fz):=by
 refine ⟨(Holds.zero w).alloc _,?_,((bR _ _).alloc (nL _) _).alloc (by simp) _⟩;have h:=FHolds.new (w.alloc z4) 0 0;rw [show (w.alloc z4).heap.size=w.heap.size+1 from by simp] at h;exact h
theorem zaK {B:Nat} {w w':World} {b c:Nat} {x0 x1 x2 x3 y0 y1:Value} (h:Below B w w') (hb:B<=b) (hc:B<=c) :
  Below B w ((((((w'.setCell ⟨b,0,none⟩ x0).setCell ⟨b,1,none⟩ x1).setCell ⟨b,2,none⟩ x2).setCell ⟨b,3,none⟩ x3).setCell ⟨c,0,none⟩ y0).setCell ⟨c,1,none⟩ y1) :=
 (((((h.setCell hb _).setCell hb _).setCell hb _).setCell hb _).setCell hc _).setCell hc _
theorem zlL (w:World) (p:Addr) (v:Value):(w.setCell p v).heap.size=w.heap.size:=by simp [World.setCell]
theorem zgb {w':World} {b c:Nat} {x0 x1 x2 x3 y0 y1:Value} :
  ((((((w'.setCell ⟨b,0,none⟩ x0).setCell ⟨b,1,none⟩ x1).setCell ⟨b,2,none⟩ x2).setCell ⟨b,3,none⟩ x3).setCell ⟨c,0,none⟩ y0).setCell ⟨c,1,none⟩ y1).heap.size=w'.heap.size:=by
 simp only [zlL]
theorem zfE (s:ByteArray) (i:Nat) (hi:i<=s.size) (hs:s.size<=140737488355328) (w:World) :
  Calls Tryz.prog 178 #[.string s,.int .i64 i] w (rB w (mbV (zaV s i))):=by
 obtain ⟨q1,q2,q3⟩:=zcQ w;have HH:=hO q1;have HG:=hO q2;have HR:=hO q3;clear q1 q2 q3;by_cases h:i+1<s.size
 ·have hb:s[i+1].toNat<256:=s[i+1].toNat_lt
  have HX:Hid (∀w,Cl 136 #[.int .u8 (s[i+1].toNat:Int)] w (rB w (.tuple #[sv (cls s[i+1].toNat).1,.int .i64 (cls s[i+1].toNat).2]))):=fun w=>zeB _ hb w
  by_cases hc:(cls s[i+1].toNat).2=0
  ·have HF:Hid (zaV s i=.inl ((cls s[i+1].toNat).1,i+2)):=(by show zaV s i=_;unfold zaV;rw [zal h];rw [iP ⟨h,hc⟩];rfl)
   go_enter Tryz.func178,Tryz.ntmps178;go_wp2_with fail;refine (HX _).mono ?_;rintro e w1 ⟨rfl,hb1⟩;rw [hc];have hl:w.heap.size+1<w1.heap.size:=by have h:=hb1.size;simp at h;omega
   have HR1:=hO (HR.trans (hb1.mono (by simp;omega)));obtain ⟨_,g0,g1,k0,k1⟩:=HG.below hb1 (by simp);obtain ⟨_,c0,c1,c2,c3,f0,f1,f2,f3⟩:=HH.below hb1 (by simp;omega);clear hb1 HX hc HH HG HR;generalize (cls s[i+1].toNat).1=r at *;go_wp2
   rw [HF.out];refine bodyPost_ret (v:=mbV (.inl (r,i+2))) (by simp [results,Tryz.results178,go_sem,mbV,zak, *]) rfl ⟨rfl,?_⟩;exact (zaK HR1 (nL _) (by omega)).alloc (by rw [zgb];omega) _
  ·have HF:Hid (zaV s i=.inr (i,10)):=(by show zaV s i=_;unfold zaV;rw [zal h];rw [iN (fun q=>hc q.2)])
   have hc':((cls s[i+1].toNat).2==0)=false:=bF hc;clear hc;go_enter Tryz.func178,Tryz.ntmps178;go_wp2_with fail;refine (HX _).mono ?_;rintro e w1 ⟨rfl,hb1⟩;have hl:w.heap.size+1<w1.heap.size:=by have h:=hb1.size;simp at h;omega
   have HR1:=hO (HR.trans (hb1.mono (by simp;omega)));obtain ⟨_,g0,g1,k0,k1⟩:=HG.below hb1 (by simp);obtain ⟨_,c0,c1,c2,c3,f0,f1,f2,f3⟩:=HH.below hb1 (by simp;omega);clear hb1 HX HH HG HR;generalize cls s[i+1].toNat=r at *;go_wp2
   rw [HF.out];refine bodyPost_ret (v:=mbV (.inr (i,10))) (by simp [results,Tryz.results178,go_sem,mbV,zak, *]) rfl ⟨rfl,?_⟩;exact (zaK HR1 (nL _) (by omega)).alloc (by rw [zgb];omega) _
 ·have HF:Hid (zaV s i=.inr (i,10)):=(by show zaV s i=_;unfold zaV;rw [iN (fun q=>h q.1)])
  have h1:¬(i:Int)+1<(s.size:Int):=by omega
  go_enter Tryz.func178,Tryz.ntmps178;go_wp2
  rw [HF.out];refine bodyPost_ret (v:=mbV (.inr (i,10))) (by simp [results,Tryz.results178,go_sem,mbV,zak, *]) rfl ⟨rfl,?_⟩;exact ((bR _ _).alloc (nL _) _).alloc (by simp) _
theorem zgc (s:ByteArray) (i:Nat) (hi:i<=s.size) (hs:s.size<=140737488355328) (w:World) (hc:(chr s i==37)=true) :
  Calls Tryz.prog 160 #[.string s,.int .i64 i] w (rB w (mbV (zab s i))):=by
 have HF:Hid (zab s i=zaV s i):=(by show zab s i=_;unfold zab;rw [iP (beq_iff_eq.1 hc)]);obtain ⟨q1,q2,q3⟩:=zcQ w;have HH:=hO q1;have HG:=hO q2;have HR:=hO q3;clear q1 q2 q3;go_enter Tryz.func160,Tryz.ntmps160;go_wp2_with fail;refine (zan s i 37 (by omega) _).mono ?_;rintro e w1 ⟨rfl,rfl⟩;rw [hc];clear hc;go_wp2_with fail;refine (zfE s i hi hs _).mono ?_;rintro e w1 ⟨rfl,hb1⟩;have hl:w.heap.size+1<w1.heap.size:=by have h:=hb1.size;simp at h;omega
 have HR1:=hO (HR.trans (hb1.mono (by simp;omega)));obtain ⟨_,g0,g1,k0,k1⟩:=HG.below hb1 (by simp);obtain ⟨_,c0,c1,c2,c3,f0,f1,f2,f3⟩:=HH.below hb1 (by simp;omega);clear hb1 HH HG HR
 cases hq:zaV s i with
 | inl p =>
  obtain ⟨y,n⟩:=p;rw [hq] at HF;dsimp only [mbV];clear hq;go_wp2
  rw [HF.out];refine bodyPost_ret (v:=mbV (.inl (y,n))) (by simp [results,Tryz.results160,go_sem,mbV,zak, *]) rfl ⟨rfl,?_⟩;exact zaK HR1 (nL _) (by omega)
 | inr pq =>
  obtain ⟨a,c⟩:=pq;rw [hq] at HF;dsimp only [mbV];clear hq;go_wp2
  rw [HF.out];refine bodyPost_ret (v:=mbV (.inr (a,c))) (by simp [results,Tryz.results160,go_sem,mbV,zak, *]) rfl ⟨rfl,?_⟩;exact zaK HR1 (nL _) (by omega)
theorem zgT (s:ByteArray) (i:Nat) (_hi:i<=s.size) (hs:s.size<=140737488355328) (w:World) (hc:(chr s i==37)=false) (h1:zaj s i=none) :
  Calls Tryz.prog 160 #[.string s,.int .i64 i] w (rB w (mbV (zab s i))):=by
 have hn37:¬chr s i=37:=beq_eq_false_iff_ne.1 hc;have HF:Hid (zab s i=.inr (i,6)):=(by show zab s i=_;unfold zab;rw [iN hn37,h1]);clear hn37;obtain ⟨q1,q2,q3⟩:=zcQ w;have HH:=hO q1;have HG:=hO q2;have HR:=hO q3;clear q1 q2 q3;go_enter Tryz.func160,Tryz.ntmps160;go_wp2_with fail;refine (zan s i 37 (by omega) _).mono ?_;rintro e w1 ⟨rfl,rfl⟩;rw [hc];clear hc;go_wp2_with fail;refine (za4 s i hs _).mono ?_;rintro e w1 ⟨rfl,rfl⟩;rw [h1];dsimp only [itV];clear h1;go_wp2
 rw [HF.out];refine bodyPost_ret (v:=mbV (.inr (i,6))) (by simp [results,Tryz.results160,go_sem,mbV,zak, *]) rfl ⟨rfl,?_⟩;exact ((bR _ _).alloc (nL _) _).alloc (by simp) _
theorem zig (s:ByteArray) (i:Nat) (_hi:i<=s.size) (hs:s.size<=140737488355328) (w:World) (hc:(chr s i==37)=false) (lo n:Nat) (h1:zaj s i=some (lo,n)) (h2:(chr s n==45)=false) :
  Calls Tryz.prog 160 #[.string s,.int .i64 i] w (rB w (mbV (zab s i))):=by
 have hn37:¬chr s i=37:=beq_eq_false_iff_ne.1 hc;have HF:Hid (zab s i=.inl (spn lo lo,n)):=(by show zab s i=_;unfold zab;rw [iN hn37,h1];exact iN (beq_eq_false_iff_ne.1 h2));obtain ⟨b1,b2,b3⟩:=za7 h1;clear hn37;obtain ⟨q1,q2,q3⟩:=zcQ w;have HH:=hO q1;have HG:=hO q2;have HR:=hO q3;clear q1 q2 q3;go_enter Tryz.func160,Tryz.ntmps160;go_wp2_with fail;refine (zan s i 37 (by omega) _).mono ?_;rintro e w1 ⟨rfl,rfl⟩;rw [hc];clear hc;go_wp2_with fail;refine (za4 s i hs _).mono ?_;rintro e w1 ⟨rfl,rfl⟩;rw [h1];dsimp only [itV];clear h1;go_wp2_with fail;refine (zan s n 45 (by omega) _).mono ?_;rintro e w1 ⟨rfl,rfl⟩;rw [h2];clear h2;go_wp2_with fail;refine (zaC lo lo _ (by omega) (by omega) (by omega)).mono ?_;rintro e w1 ⟨rfl,hb1⟩;have hl:w.heap.size+1<w1.heap.size:=by have h:=hb1.size;simp at h;omega
 have HR1:=hO (HR.trans (hb1.mono (by simp;omega)));obtain ⟨_,g0,g1,k0,k1⟩:=HG.below hb1 (by simp);obtain ⟨_,c0,c1,c2,c3,f0,f1,f2,f3⟩:=HH.below hb1 (by simp;omega);clear hb1 HH HG HR;generalize spn lo lo=y at *;go_wp2
 rw [HF.out];refine bodyPost_ret (v:=mbV (.inl (y,n))) (by simp [results,Tryz.results160,go_sem,mbV,zak, *]) rfl ⟨rfl,?_⟩;exact zaK HR1 (nL _) (by omega)
theorem zgU (s:ByteArray) (i:Nat) (_hi:i<=s.size) (hs:s.size<=140737488355328) (w:World) (hc:(chr s i==37)=false) (lo n:Nat) (h1:zaj s i=some (lo,n)) (h2:(chr s n==45)=true) (h3:zaj s (n+1)=none) :
  Calls Tryz.prog 160 #[.string s,.int .i64 i] w (rB w (mbV (zab s i))):=by
 have hn37:¬chr s i=37:=beq_eq_false_iff_ne.1 hc;have HF:Hid (zab s i=.inr ((n+1),6)):=(by show zab s i=_;unfold zab;rw [iN hn37,h1];exact (iP (beq_iff_eq.1 h2)).trans (by rw [h3]));obtain ⟨b1,b2,b3⟩:=za7 h1;clear hn37;obtain ⟨q1,q2,q3⟩:=zcQ w;have HH:=hO q1;have HG:=hO q2;have HR:=hO q3;clear q1 q2 q3;go_enter Tryz.func160,Tryz.ntmps160;go_wp2_with fail;refine (zan s i 37 (by omega) _).mono ?_;rintro e w1 ⟨rfl,rfl⟩;rw [hc];clear hc;go_wp2_with fail;refine (za4 s i hs _).mono ?_;rintro e w1 ⟨rfl,rfl⟩;rw [h1];dsimp only [itV];clear h1;go_wp2_with fail;refine (zan s n 45 (by omega) _).mono ?_;rintro e w1 ⟨rfl,rfl⟩;rw [h2];clear h2;go_wp2_with fail;rw [show (n:Int)+1=((n+1:Nat):Int) from by omega];refine (za4 s (n+1) hs _).mono ?_;rintro e w1 ⟨rfl,rfl⟩;rw [h3];dsimp only [itV];clear h3;go_wp2
 rw [HF.out];refine bodyPost_ret (v:=mbV (.inr ((n+1),6))) (by simp [results,Tryz.results160,go_sem,mbV,zak, *]) rfl ⟨rfl,?_⟩;exact ((bR _ _).alloc (nL _) _).alloc (by simp) _
theorem zfF (s:ByteArray) (i:Nat) (_hi:i<=s.size) (hs:s.size<=140737488355328) (w:World) (hc:(chr s i==37)=false) (lo n hi_ e_:Nat) (h1:zaj s i=some (lo,n)) (h2:(chr s n==45)=true) (h3:zaj s (n+1)=some (hi_,e_)) (h4:hi_<lo) :
  Calls Tryz.prog 160 #[.string s,.int .i64 i] w (rB w (mbV (zab s i))):=by
 have hn37:¬chr s i=37:=beq_eq_false_iff_ne.1 hc;have HF:Hid (zab s i=.inr (i,1)):=(by show zab s i=_;unfold zab;rw [iN hn37,h1];exact (iP (beq_iff_eq.1 h2)).trans (by rw [h3];exact iP h4));obtain ⟨b1,b2,b3⟩:=za7 h1;have h5:(hi_:Int)<(lo:Int):=by omega
 clear hn37;obtain ⟨q1,q2,q3⟩:=zcQ w;have HH:=hO q1;have HG:=hO q2;have HR:=hO q3;clear q1 q2 q3;go_enter Tryz.func160,Tryz.ntmps160;go_wp2_with fail;refine (zan s i 37 (by omega) _).mono ?_;rintro e w1 ⟨rfl,rfl⟩;rw [hc];clear hc;go_wp2_with fail;refine (za4 s i hs _).mono ?_;rintro e w1 ⟨rfl,rfl⟩;rw [h1];dsimp only [itV];clear h1;go_wp2_with fail;refine (zan s n 45 (by omega) _).mono ?_;rintro e w1 ⟨rfl,rfl⟩;rw [h2];clear h2;go_wp2_with fail;rw [show (n:Int)+1=((n+1:Nat):Int) from by omega];refine (za4 s (n+1) hs _).mono ?_;rintro e w1 ⟨rfl,rfl⟩;rw [h3];dsimp only [itV];clear h3;go_wp2
 rw [HF.out];refine bodyPost_ret (v:=mbV (.inr (i,1))) (by simp [results,Tryz.results160,go_sem,mbV,zak, *]) rfl ⟨rfl,?_⟩;exact ((bR _ _).alloc (nL _) _).alloc (by simp) _
theorem zgV (s:ByteArray) (i:Nat) (_hi:i<=s.size) (hs:s.size<=140737488355328) (w:World) (hc:(chr s i==37)=false) (lo n hi_ e_:Nat) (h1:zaj s i=some (lo,n)) (h2:(chr s n==45)=true) (h3:zaj s (n+1)=some (hi_,e_)) (h4:¬hi_<lo) :
  Calls Tryz.prog 160 #[.string s,.int .i64 i] w (rB w (mbV (zab s i))):=by
 have hn37:¬chr s i=37:=beq_eq_false_iff_ne.1 hc;have HF:Hid (zab s i=.inl (spn lo hi_,e_)):=(by show zab s i=_;unfold zab;rw [iN hn37,h1];exact (iP (beq_iff_eq.1 h2)).trans (by rw [h3];exact iN h4));obtain ⟨b1,b2,b3⟩:=za7 h1;obtain ⟨d1,d2,d3⟩:=za7 h3;have h5:¬(hi_:Int)<(lo:Int):=by omega
 clear hn37;obtain ⟨q1,q2,q3⟩:=zcQ w;have HH:=hO q1;have HG:=hO q2;have HR:=hO q3;clear q1 q2 q3;go_enter Tryz.func160,Tryz.ntmps160;go_wp2_with fail;refine (zan s i 37 (by omega) _).mono ?_;rintro e w1 ⟨rfl,rfl⟩;rw [hc];clear hc;go_wp2_with fail;refine (za4 s i hs _).mono ?_;rintro e w1 ⟨rfl,rfl⟩;rw [h1];dsimp only [itV];clear h1;go_wp2_with fail;refine (zan s n 45 (by omega) _).mono ?_;rintro e w1 ⟨rfl,rfl⟩;rw [h2];clear h2;go_wp2_with fail;rw [show (n:Int)+1=((n+1:Nat):Int) from by omega];refine (za4 s (n+1) hs _).mono ?_;rintro e w1 ⟨rfl,rfl⟩;rw [h3];dsimp only [itV];clear h3;go_wp2_with fail;refine (zaC lo hi_ _ (by omega) (by omega) (by omega)).mono ?_;rintro e w1 ⟨rfl,hb1⟩;have hl:w.heap.size+1<w1.heap.size:=by have h:=hb1.size;simp at h;omega
 have HR1:=hO (HR.trans (hb1.mono (by simp;omega)));obtain ⟨_,g0,g1,k0,k1⟩:=HG.below hb1 (by simp);obtain ⟨_,c0,c1,c2,c3,f0,f1,f2,f3⟩:=HH.below hb1 (by simp;omega);clear hb1 HH HG HR;generalize spn lo hi_=y at *;go_wp2
 rw [HF.out];refine bodyPost_ret (v:=mbV (.inl (y,e_))) (by simp [results,Tryz.results160,go_sem,mbV,zak, *]) rfl ⟨rfl,?_⟩;exact zaK HR1 (nL _) (by omega)
theorem zc6 (s:ByteArray) (i:Nat) (hi:i<=s.size) (hs:s.size<=140737488355328) (w:World) :
  Calls Tryz.prog 160 #[.string s,.int .i64 i] w (rB w (mbV (zab s i))):=by
 cases hc:(chr s i==37)
 ·cases h1:zaj s i with
  | none=>exact zgT s i hi hs w hc h1
  | some p =>
   obtain ⟨lo,n⟩:=p
   cases h2:(chr s n==45)
   ·exact zig s i hi hs w hc lo n h1 h2
   ·cases h3:zaj s (n+1) with
    | none=>exact zgU s i hi hs w hc lo n h1 h2 h3
    | some p =>
     obtain ⟨hi_,e_⟩:=p;by_cases h4:hi_<lo
     ·exact zfF s i hi hs w hc lo n hi_ e_ h1 h2 h3 h4
     ·exact zgV s i hi hs w hc lo n hi_ e_ h1 h2 h3 h4
 ·exact zgc s i hi hs w hc
theorem zbh {s:ByteArray} {f:Nat} {x:BitVec 256} {k:Nat} (h:chr s k=93):zaf s (f+1) x k=.inl (x,k):=by
 unfold zaf;rw [iP h]
theorem zay {s:ByteArray} {f:Nat} {x:BitVec 256} {k a:Nat} {c:Int} (h:¬chr s k=93) (h1:zab s k=.inr (a,c)):zaf s (f+1) x k=.inr (a,c):=by
 rw [zaf,iN h,h1]
theorem zaA {s:ByteArray} {f:Nat} {x y:BitVec 256} {k n:Nat} (h:¬chr s k=93) (h1:zab s k=.inl (y,n)):zaf s (f+1) x k=zaf s f (x ||| y) n:=by
 rw [zaf,iN h,h1]
theorem zdu {s:ByteArray} {i a:Nat} {c:Int} (h:zab s i=.inr (a,c)):(c != 0)=true/\a<=s.size+i+1:=by
 unfold zab at h
 split at h
 ·unfold zaV at h
  split at h
  ·simp at h
  ·simp only [Sum.inr.injEq,Prod.mk.injEq] at h;obtain ⟨rfl,rfl⟩:=h;exact ⟨rfl,by omega⟩
 ·split at h
  ·simp only [Sum.inr.injEq,Prod.mk.injEq] at h;obtain ⟨rfl,rfl⟩:=h;exact ⟨rfl,by omega⟩
  ·rename_i lo m hm
   have b1:=za7 hm
   split at h
   ·split at h
    ·simp only [Sum.inr.injEq,Prod.mk.injEq] at h;obtain ⟨rfl,rfl⟩:=h;exact ⟨rfl,by omega⟩
    ·split at h
     ·simp only [Sum.inr.injEq,Prod.mk.injEq] at h;obtain ⟨rfl,rfl⟩:=h;exact ⟨rfl,by omega⟩
     ·simp at h
   ·simp at h
theorem zc7 {s:ByteArray}:∀{f:Nat} {x:BitVec 256} {i a:Nat} {c:Int},zaf s f x i=.inr (a,c)->(c != 0)=true:=by
 intro f
 induction f with
 | zero=>intro x i a c h;simp only [zaf,Sum.inr.injEq,Prod.mk.injEq] at h;obtain ⟨rfl,rfl⟩:=h;rfl
 | succ f ih =>
  intro x i a c h;by_cases hc:chr s i=93
  ·rw [zbh hc] at h;simp at h
  ·cases hm:zab s i with
   | inr pq =>
    obtain ⟨a',c'⟩:=pq;rw [zay hc hm] at h;simp only [Sum.inr.injEq,Prod.mk.injEq] at h;obtain ⟨rfl,rfl⟩:=h;exact (zdu hm).1
   | inl p=>obtain ⟨y,n⟩:=p;rw [zaA hc hm] at h;exact ih h
theorem zbs {s:ByteArray}:∀{f:Nat} {x y:BitVec 256} {i n:Nat},zaf s f x i=.inl (y,n)->i<=n/\n<s.size/\chr s n=93:=by
 intro f
 induction f with
 | zero=>intro x y i n h;simp [zaf] at h
 | succ f ih =>
  intro x y i n h;by_cases hc:chr s i=93
  ·rw [zbh hc] at h;simp only [Sum.inl.injEq,Prod.mk.injEq] at h;obtain ⟨rfl,rfl⟩:=h;exact ⟨by omega,zaz (by omega),hc⟩
  ·cases hm:zab s i with
   | inr pq =>
    obtain ⟨a',c'⟩:=pq;rw [zay hc hm] at h;simp at h
   | inl p=>obtain ⟨y,n⟩:=p;have b:=zc9 hm;rw [zaA hc hm] at h;have b2:=ih h;exact ⟨by omega,b2.2⟩
theorem boxes3 (w:World):Holds (((w.alloc z4).alloc fz).alloc z4) w.heap.size 0#256/\FHolds (((w.alloc z4).alloc fz).alloc z4) (w.heap.size+1) 0 0/\Holds (((w.alloc z4).alloc fz).alloc z4) (w.heap.size+1+1) 0#256/\Below w.heap.size w (((w.alloc z4).alloc fz).alloc z4):=by
 obtain ⟨h1,h2,h3⟩:=zcQ w;have hs:((w.alloc z4).alloc fz).heap.size=w.heap.size+1+1:=by simp
 refine ⟨h1.alloc _,h2.below (B:=w.heap.size+1+1) ((bR _ _).alloc (by rw [hs];exact nL _) _) (by omega),?_,h3.alloc (by rw [hs];omega) _⟩;have h:=Holds.zero ((w.alloc z4).alloc fz);rw [hs] at h;exact h
structure AtM (w wr:World) (x:BitVec 256):Prop where
 h1:Holds wr w.heap.size 0#256
 h2:FHolds wr (w.heap.size+1) 0 0
 h3:Holds wr (w.heap.size+1+1) x
 hb:Below w.heap.size w wr
theorem AtM.below {B:Nat} {w wr w1:World} {x:BitVec 256} (h:AtM w wr x) (hb:Below B wr w1) (hB:w.heap.size+1+1<B):AtM w w1 x :=
 ⟨h.h1.below hb (by omega),h.h2.below hb (by omega),h.h3.below hb hB,h.hb.trans (hb.mono (by omega))⟩
theorem FHolds.put_other {w:World} {b c:Nat} {p q:Int} (h:FHolds w c p q) (hne:c≠b) (y:BitVec 256):FHolds (zm9 w b y) c p q:=by
 obtain ⟨lt,c0,c1,f0,f1⟩:=h
 constructor <;> simp [go_sem, *]
theorem AtM.put {w wr:World} {x:BitVec 256} (h:AtM w wr x) (y:BitVec 256):AtM w (zm9 wr (w.heap.size+1+1) y) y :=
 ⟨h.h1.put_other (by omega) y,h.h2.put_other (by omega) y,h.h3.put y,zcm h.hb (by omega) y⟩
theorem zbC (s:ByteArray) (i:Nat) (hi:i<=s.size) (hs:s.size<=140737488355328) (w:World) :
  Calls Tryz.prog 149 #[.string s,.int .i64 i] w (rB w (mbV (zaf s (s.size+1) 0#256 i))):=by
 obtain ⟨q1,q2,q3,q4⟩:=boxes3 w;have HA:Hid (AtM w (((w.alloc z4).alloc fz).alloc z4) 0#256):=⟨q1,q2,q3,q4⟩;clear q1 q2 q3 q4;generalize hR:zaf s (s.size+1) 0#256 i=R;have HR:=hO hR;clear hR;go_enter Tryz.func149,Tryz.ntmps149;go_wp2_with fail;go_loopw [1] (fun t wr=>∃k:Nat,∃f:Nat,∃x:BitVec 256,k<=s.size/\t=.int .i64 k/\Hid (s.size+1<=f+k)/\Hid (zaf s f x k=R)/\Hid (AtM w wr x)) (fun t _=>s.size - (intOf t).toNat)
 case atStart=>exact ⟨i,s.size+1,0#256,hi,rfl,show _<=_ by omega,HR,HA⟩
 case round =>
  obtain ⟨k,f,x,hk,rfl,hf,hr,ha⟩:=hrel;obtain ⟨g,rfl⟩:∃g,f=g+1:=⟨f - 1,by have h:=hf.out;omega⟩;clear HA HR;go_wp2_with fail;refine (zan s k 93 (by omega) _).mono ?_;rintro e w1 ⟨rfl,rfl⟩
  cases hc:(chr s k==93)
  ·have hn:¬chr s k=93:=beq_eq_false_iff_ne.1 hc
   cases hm:zab s k with
   | inl p =>
    obtain ⟨y,n⟩:=p;obtain ⟨b1,b2⟩:=zc9 hm;have hr':Hid (zaf s g (x ||| y) n=R):=((zaA hn hm).symm.trans hr.out);have hf':Hid (s.size+1<=g+n):=(by have h:=hf.out;show _<=_;omega);have HM:=hO hm;clear hn hm hc hr hf;go_wp2_with fail;refine (zc6 s k hk hs _).mono ?_;rintro e w1 ⟨rfl,hb1⟩;rw [HM.out];dsimp only [mbV];have HA1:=hO (ha.out.below hb1 ha.out.h3.lt);clear hb1 ha HM;have hl:w.heap.size+1+1<w1.heap.size:=HA1.h3.lt;have HA2:Hid (AtM w ((w1.alloc (c4 y)).alloc fz) x):=HA1.below (B:=w1.heap.size) (((bR _ _).alloc (nL _) _).alloc (by simp) _) hl;clear HA1;obtain ⟨_,c0,c1,c2,c3,f0,f1,f2,f3⟩:=HA2.h3;go_wp2_with fail;refine (ziG x y _).mono ?_;rintro e w2 ⟨rfl,hb2⟩;have HA3:=hO (HA2.below hb2 HA2.h3.lt);clear HA2 hb2 c0 c1 c2 c3 f0 f1 f2 f3;obtain ⟨_,c0,c1,c2,c3,f0,f1,f2,f3⟩:=HA3.h3;go_wp2_with fail;go_roundw
    case rel =>
     exact ⟨n,g,x ||| y,b2,rfl,hf',hr',HA3.put (x ||| y)⟩
    case measure=>simp [intOf];omega
   | inr pq =>
    obtain ⟨a,c⟩:=pq;have hr':Hid (R=.inr (a,c)):=(hr.out.symm.trans (zay hn hm));have HM:=hO hm;have hcn:=(zdu hm).1;clear hn hm hc hr hf;go_wp2_with fail;refine (zc6 s k hk hs _).mono ?_;rintro e w1 ⟨rfl,hb1⟩;rw [HM.out];dsimp only [mbV];have HA1:=hO (ha.out.below hb1 ha.out.h3.lt);clear hb1 ha HM;have hl:w.heap.size+1+1<w1.heap.size:=HA1.h3.lt;have HA2:Hid (AtM w ((w1.alloc (c4 0#256)).alloc (.cells #[.int .i64 (a:Int),.int .i64 c] 27)) x):=HA1.below (B:=w1.heap.size) (((bR _ _).alloc (nL _) _).alloc (by simp) _) hl;clear HA1;obtain ⟨_,c0,c1,c2,c3,f0,f1,f2,f3⟩:=HA2.h1;obtain ⟨_,d0,d1,g0,g1⟩:=HA2.h2;go_wp2_with fail;go_region
    all_goals
     go_wp2
     rw [hr'.out];have HB2:=HA2.hb;simp only [c4,zak] at c0 c1 c2 c3 f0 f1 f2 f3 d0 d1 g0 g1 HB2 ⊢;refine bodyPost_ret (v:=mbV (.inr (a,c))) (by simp [results,Tryz.results149,go_sem,mbV,zak, *]) rfl ⟨rfl,?_⟩
     first | exact (zaK HB2 (nL _) (by omega)).drew | exact zaK HB2 (nL _) (by omega)
  ·have he:chr s k=93:=beq_iff_eq.1 hc
   have hr':Hid (R=.inl (x,k)):=(hr.out.symm.trans (zbh he));clear he hr hf hc;have hl:w.heap.size+1+1<w1.heap.size:=ha.out.h3.lt;obtain ⟨_,c0,c1,c2,c3,f0,f1,f2,f3⟩:=ha.out.h1;obtain ⟨_,d0,d1,g0,g1⟩:=ha.out.h2;obtain ⟨_,e0,e1,e2,e3,k0,k1,k2,k3⟩:=ha.out.h3;go_wp2_with fail;rw [hr'.out];refine bodyPost_ret (v:=mbV (.inl (x,k))) (by simp [results,Tryz.results149,go_sem,mbV,zak, *]) rfl ⟨rfl,?_⟩;exact zaK ha.out.hb (nL _) (by omega)
def zfG:Rd (BitVec 256×Nat)->Rd (BitVec 256×Nat)
 | .inr (a,c)=>.inr (a,c)
 | .inl (x,e)=>.inl (x,e+1)
def zcR:Rd (BitVec 256×Nat)->Rd (BitVec 256×Nat)
 | .inr (a,c)=>.inr (a,c)
 | .inl (x,e)=>.inl (~~~ x,e+1)
def zap (s:ByteArray) (i:Int):Rd (BitVec 256×Nat) :=
 if i<0∨(s.size:Int)<i then .inr (0,1) else
 if chr s i.toNat=91 then
  if chr s (i.toNat+1)=94 then zcR (zaf s (s.size+1) 0#256 (i.toNat+2)) else zfG (zaf s (s.size+1) 0#256 (i.toNat+1))
 else .inr (i.toNat,6)
theorem zlM (s:ByteArray) (i:Int) (h:i<0∨(s.size:Int)<i) (w:World) :
  Calls Tryz.prog 133 #[.string s,.int .i64 i] w (rB w (mbV (zap s i))):=by
 have HF:Hid (zap s i=.inr (0,1)):=(by show zap s i=_;unfold zap;rw [iP h])
 rcases h with h | h
 ·go_enter Tryz.func133,Tryz.ntmps133
  go_wp2
  rw [HF.out];refine bodyPost_ret (v:=mbV (.inr (0,1))) (by simp [results,Tryz.results133,go_sem,mbV,zak, *]) rfl ⟨rfl,?_⟩;exact ((bR _ _).alloc (nL _) _).alloc (by simp) _
 ·have h0:¬i<0:=by omega
  go_enter Tryz.func133,Tryz.ntmps133;go_wp2
  rw [HF.out];refine bodyPost_ret (v:=mbV (.inr (0,1))) (by simp [results,Tryz.results133,go_sem,mbV,zak, *]) rfl ⟨rfl,?_⟩;exact ((bR _ _).alloc (nL _) _).alloc (by simp) _
theorem zjR (s:ByteArray) (i:Nat) (hi:i<=s.size) (_hs:s.size<=140737488355328) (h:(chr s i==91)=false) (w:World) :
  Calls Tryz.prog 133 #[.string s,.int .i64 i] w (rB w (mbV (zap s i))):=by
 have HF:Hid (zap s i=.inr (i,6)):=(by show zap s i=_;unfold zap;rw [iN (by omega),iN (by exact beq_eq_false_iff_ne.1 h)];rfl);go_enter Tryz.func133,Tryz.ntmps133;go_wp2_with fail;refine (zan s i 91 (by omega) _).mono ?_;rintro e w1 ⟨rfl,rfl⟩;rw [h];clear h;go_wp2_with fail;rw [HF.out];refine bodyPost_ret (v:=mbV (.inr (i,6))) (by simp [results,Tryz.results133,go_sem,mbV,zak, *]) rfl ⟨rfl,?_⟩;exact ((bR _ _).alloc (nL _) _).alloc (by simp) _
structure AtR (w wr:World):Prop where
 h1:Holds wr w.heap.size 0#256
 h2:FHolds wr (w.heap.size+1) 0 0
 hb:Below w.heap.size w wr
theorem AtR.below {B:Nat} {w wr w1:World} (h:AtR w wr) (hb:Below B wr w1) (hB:w.heap.size+1<B):AtR w w1 :=
 ⟨h.h1.below hb (by omega),h.h2.below hb hB,h.hb.trans (hb.mono (by omega))⟩
theorem AtR.start (w:World):AtR w ((w.alloc z4).alloc fz):=⟨(zcQ w).1,(zcQ w).2.1,(zcQ w).2.2⟩
theorem zeO (s:ByteArray) (i:Nat) (hi:i+1<=s.size) (hs:s.size<=140737488355328) (h:(chr s i==91)=true) (h2:(chr s (i+1)==94)=false) (a:Nat) (c:Int) (hm:zaf s (s.size+1) 0#256 (i+1)=.inr (a,c)) (w:World) :
  Calls Tryz.prog 133 #[.string s,.int .i64 i] w (rB w (mbV (zap s i))):=by
 have HF:=(show Hid (zap s i=.inr (a,c)) from (by
  show zap s i=_;unfold zap
  rw [iN (by omega),Int.toNat_natCast,iP (beq_iff_eq.1 h),iN (beq_eq_false_iff_ne.1 h2),hm];rfl))
 have HM:=hO hm;have HA:=hO (AtR.start w);have hcn:=zc7 hm;clear hm;go_enter Tryz.func133,Tryz.ntmps133;go_wp2_with fail;refine (zan s i 91 (by omega) _).mono ?_;rintro e w1 ⟨rfl,rfl⟩;rw [h];clear h;go_wp2_with fail;rw [show (i:Int)+1=((i+1:Nat):Int) from by omega];refine (zan s (i+1) 94 (by omega) _).mono ?_;rintro e w1 ⟨rfl,rfl⟩;rw [h2];clear h2;go_wp2_with fail;refine (zbC s (i+1) hi hs _).mono ?_;rintro e w1 ⟨rfl,hb1⟩;rw [HM.out];dsimp only [mbV];have HA1:=hO (HA.below hb1 HA.h2.lt);clear hb1 HA HM;have hl:w.heap.size+1<w1.heap.size:=HA1.h2.lt;have HA2:Hid (AtR w ((w1.alloc (c4 0#256)).alloc (.cells #[.int .i64 (a:Int),.int .i64 c] 27))):=HA1.below (B:=w1.heap.size) (((bR _ _).alloc (nL _) _).alloc (by simp) _) hl;clear HA1;obtain ⟨_,c0,c1,c2,c3,f0,f1,f2,f3⟩:=HA2.h1;obtain ⟨_,d0,d1,g0,g1⟩:=HA2.h2;go_wp2_with fail;go_region
 all_goals
  go_wp2
  rw [HF.out];have HB2:=HA2.hb;simp only [c4,zak] at c0 c1 c2 c3 f0 f1 f2 f3 d0 d1 g0 g1 HB2 ⊢;refine bodyPost_ret (v:=mbV (.inr (a,c))) (by simp [results,Tryz.results133,go_sem,mbV,zak, *]) rfl ⟨rfl,?_⟩
  first | exact (zaK HB2 (nL _) (by omega)).drew | exact zaK HB2 (nL _) (by omega)
theorem zfH (s:ByteArray) (i:Nat) (hi:i+2<=s.size) (hs:s.size<=140737488355328) (h:(chr s i==91)=true) (h2:(chr s (i+1)==94)=true) (a:Nat) (c:Int) (hm:zaf s (s.size+1) 0#256 (i+2)=.inr (a,c)) (w:World) :
  Calls Tryz.prog 133 #[.string s,.int .i64 i] w (rB w (mbV (zap s i))):=by
 have HF:=(show Hid (zap s i=.inr (a,c)) from (by
  show zap s i=_;unfold zap
  rw [iN (by omega),Int.toNat_natCast,iP (beq_iff_eq.1 h),iP (beq_iff_eq.1 h2),hm];rfl))
 have HM:=hO hm;have HA:=hO (AtR.start w);have hcn:=zc7 hm;clear hm;go_enter Tryz.func133,Tryz.ntmps133;go_wp2_with fail;refine (zan s i 91 (by omega) _).mono ?_;rintro e w1 ⟨rfl,rfl⟩;rw [h];clear h;go_wp2_with fail;rw [show (i:Int)+1=((i+1:Nat):Int) from by omega];refine (zan s (i+1) 94 (by omega) _).mono ?_;rintro e w1 ⟨rfl,rfl⟩;rw [h2];clear h2;go_wp2_with fail;rw [show (i:Int)+1+1=((i+2:Nat):Int) from by omega];refine (zbC s (i+2) hi hs _).mono ?_;rintro e w1 ⟨rfl,hb1⟩;rw [HM.out];dsimp only [mbV];have HA1:=hO (HA.below hb1 HA.h2.lt);clear hb1 HA HM;have hl:w.heap.size+1<w1.heap.size:=HA1.h2.lt;have HA2:Hid (AtR w ((w1.alloc (c4 0#256)).alloc (.cells #[.int .i64 (a:Int),.int .i64 c] 27))):=HA1.below (B:=w1.heap.size) (((bR _ _).alloc (nL _) _).alloc (by simp) _) hl;clear HA1;obtain ⟨_,c0,c1,c2,c3,f0,f1,f2,f3⟩:=HA2.h1;obtain ⟨_,d0,d1,g0,g1⟩:=HA2.h2;go_wp2_with fail;go_region
 all_goals
  go_wp2
  rw [HF.out];have HB2:=HA2.hb;simp only [c4,zak] at c0 c1 c2 c3 f0 f1 f2 f3 d0 d1 g0 g1 HB2 ⊢;refine bodyPost_ret (v:=mbV (.inr (a,c))) (by simp [results,Tryz.results133,go_sem,mbV,zak, *]) rfl ⟨rfl,?_⟩
  first | exact (zaK HB2 (nL _) (by omega)).drew | exact zaK HB2 (nL _) (by omega)
theorem zfI (s:ByteArray) (i:Nat) (hi:i+1<=s.size) (hs:s.size<=140737488355328) (h:(chr s i==91)=true) (h2:(chr s (i+1)==94)=false) (x:BitVec 256) (n:Nat) (hm:zaf s (s.size+1) 0#256 (i+1)=.inl (x,n)) (w:World) :
  Calls Tryz.prog 133 #[.string s,.int .i64 i] w (rB w (mbV (zap s i))):=by
 have HF:=(show Hid (zap s i=.inl (x,n+1)) from (by
  show zap s i=_;unfold zap
  rw [iN (by omega),Int.toNat_natCast,iP (beq_iff_eq.1 h),iN (beq_eq_false_iff_ne.1 h2),hm];rfl))
 have HM:=hO hm;have HA:=hO (AtR.start w);obtain ⟨hn1,hn2,-⟩:=zbs hm;clear hm;go_enter Tryz.func133,Tryz.ntmps133;go_wp2_with fail;refine (zan s i 91 (by omega) _).mono ?_;rintro e w1 ⟨rfl,rfl⟩;rw [h];clear h;go_wp2_with fail;rw [show (i:Int)+1=((i+1:Nat):Int) from by omega];refine (zan s (i+1) 94 (by omega) _).mono ?_;rintro e w1 ⟨rfl,rfl⟩;rw [h2];clear h2;go_wp2_with fail;refine (zbC s (i+1) hi hs _).mono ?_;rintro e w1 ⟨rfl,hb1⟩;rw [HM.out];dsimp only [mbV];have HA1:=hO (HA.below hb1 HA.h2.lt);clear hb1 HA HM;have hl:w.heap.size+1<w1.heap.size:=HA1.h2.lt;have HA2:Hid (AtR w ((w1.alloc (c4 x)).alloc fz)):=HA1.below (B:=w1.heap.size) (((bR _ _).alloc (nL _) _).alloc (by simp) _) hl;clear HA1;obtain ⟨_,c0,c1,c2,c3,f0,f1,f2,f3⟩:=HA2.h1;obtain ⟨_,d0,d1,g0,g1⟩:=HA2.h2;go_wp2_with fail;rw [HF.out];refine bodyPost_ret (v:=mbV (.inl (x,n+1))) (by simp [results,Tryz.results133,go_sem,mbV,zak, *]) rfl ⟨rfl,?_⟩;exact zaK HA2.hb (nL _) (by omega)
theorem zgd (s:ByteArray) (i:Nat) (hi:i+2<=s.size) (hs:s.size<=140737488355328) (h:(chr s i==91)=true) (h2:(chr s (i+1)==94)=true) (x:BitVec 256) (n:Nat) (hm:zaf s (s.size+1) 0#256 (i+2)=.inl (x,n)) (w:World) :
  Calls Tryz.prog 133 #[.string s,.int .i64 i] w (rB w (mbV (zap s i))):=by
 have HF:=(show Hid (zap s i=.inl (~~~ x,n+1)) from (by
  show zap s i=_;unfold zap
  rw [iN (by omega),Int.toNat_natCast,iP (beq_iff_eq.1 h),iP (beq_iff_eq.1 h2),hm];rfl))
 have HM:=hO hm;have HA:=hO (AtR.start w);obtain ⟨hn1,hn2,-⟩:=zbs hm;clear hm;go_enter Tryz.func133,Tryz.ntmps133;go_wp2_with fail;refine (zan s i 91 (by omega) _).mono ?_;rintro e w1 ⟨rfl,rfl⟩;rw [h];clear h;go_wp2_with fail;rw [show (i:Int)+1=((i+1:Nat):Int) from by omega];refine (zan s (i+1) 94 (by omega) _).mono ?_;rintro e w1 ⟨rfl,rfl⟩;rw [h2];clear h2;go_wp2_with fail;rw [show (i:Int)+1+1=((i+2:Nat):Int) from by omega];refine (zbC s (i+2) hi hs _).mono ?_;rintro e w1 ⟨rfl,hb1⟩;rw [HM.out];dsimp only [mbV];have HA1:=hO (HA.below hb1 HA.h2.lt);clear hb1 HA HM;have hl:w.heap.size+1<w1.heap.size:=HA1.h2.lt;have HA2:Hid (AtR w ((w1.alloc (c4 x)).alloc fz)):=HA1.below (B:=w1.heap.size) (((bR _ _).alloc (nL _) _).alloc (by simp) _) hl;clear HA1;have HX:Hid (Holds ((w1.alloc (c4 x)).alloc fz) w1.heap.size x):=(Holds.new w1 x).alloc _;go_wp2_with fail;refine (zgv x _).mono ?_;rintro e w2 ⟨rfl,hb2⟩;have HA3:=hO (HA2.below hb2 HA2.h2.lt);have HX3:=hO (HX.below hb2 HX.lt);have hl2:w1.heap.size+1<w2.heap.size:=by have h:=hb2.size;simp at h;omega
 clear hb2 HA2 HX;obtain ⟨_,c0,c1,c2,c3,f0,f1,f2,f3⟩:=HA3.h1;obtain ⟨_,d0,d1,g0,g1⟩:=HA3.h2;obtain ⟨_,e0,e1,e2,e3,k0,k1,k2,k3⟩:=HX3.out;generalize ~~~ x=y at *;go_wp2_with fail;rw [HF.out];refine bodyPost_ret (v:=mbV (.inl (y,n+1))) (by simp [results,Tryz.results133,go_sem,mbV,zak, *]) rfl ⟨rfl,?_⟩;exact zaK (zcm HA3.hb (by omega) y) (nL _) (by omega)
theorem zlN (s:ByteArray) (i:Int) (hs:s.size<=140737488355328) (w:World) :
  Calls Tryz.prog 133 #[.string s,.int .i64 i] w (rB w (mbV (zap s i))):=by
 by_cases h:i<0∨(s.size:Int)<i
 ·exact zlM s i h w
 ·obtain ⟨n,rfl⟩:∃n:Nat,i=n:=⟨i.toNat,by omega⟩
  have hn:n<=s.size:=by omega
  cases h1:(chr s n==91)
  ·exact zjR s n hn hs h1 w
  ·have hlt:n<s.size:=zaz (by rw [beq_iff_eq.1 h1];omega)
   cases h2:(chr s (n+1)==94)
   ·cases hm:zaf s (s.size+1) 0#256 (n+1) with
    | inr pq =>
     obtain ⟨a,c⟩:=pq;exact zeO s n hlt hs h1 h2 a c hm w
    | inl p=>obtain ⟨x,e⟩:=p;exact zfI s n hlt hs h1 h2 x e hm w
   ·have hlt2:n+1<s.size:=zaz (by rw [beq_iff_eq.1 h2];omega)
    cases hm:zaf s (s.size+1) 0#256 (n+2) with
    | inr pq =>
     obtain ⟨a,c⟩:=pq;exact zfH s n hlt2 hs h1 h2 a c hm w
    | inl p=>obtain ⟨x,e⟩:=p;exact zgd s n hlt2 hs h1 h2 x e hm w
theorem zjS {s:ByteArray} {i:Int} {x:BitVec 256} {n:Nat} (h:zap s i=.inl (x,n)):n<=s.size:=by
 unfold zap at h
 split at h
 ·simp at h
 ·split at h
  ·split at h
   ·cases hm:zaf s (s.size+1) 0#256 (i.toNat+2) with
    | inr pq =>
     obtain ⟨a',c'⟩:=pq;rw [hm] at h;simp [zcR] at h
    | inl p=>obtain ⟨y,m⟩:=p;have b:=zbs hm;rw [hm] at h;simp only [zcR,Sum.inl.injEq,Prod.mk.injEq] at h;omega
   ·cases hm:zaf s (s.size+1) 0#256 (i.toNat+1) with
    | inr pq =>
     obtain ⟨a',c'⟩:=pq;rw [hm] at h;simp [zfG] at h
    | inl p=>obtain ⟨y,m⟩:=p;have b:=zbs hm;rw [hm] at h;simp only [zfG,Sum.inl.injEq,Prod.mk.injEq] at h;omega
  ·simp at h
theorem zcw {B:Nat} {w w':World} {b:Nat} (h:Below B w w') (hb:B<=b) (y:BitVec 256):Below B w (zm9 w' b y) :=
 (((h.setCell hb _).setCell hb _).setCell hb _).setCell hb _
structure AtF (w wr:World) (x:BitVec 256):Prop where
 h1:Holds wr w.heap.size 0#256
 h2:Holds wr (w.heap.size+1) x
 hb:Below w.heap.size w wr
theorem AtF.below {B:Nat} {w wr w1:World} {x:BitVec 256} (h:AtF w wr x) (hb:Below B wr w1) (hB:w.heap.size+1<B):AtF w w1 x :=
 ⟨h.h1.below hb (by omega),h.h2.below hb hB,h.hb.trans (hb.mono (by omega))⟩
theorem AtF.start (w:World):AtF w ((w.alloc z4).alloc z4) 0#256 :=
 ⟨(Holds.zero w).alloc _,Holds.zero' w _,((bR _ _).alloc (nL _) _).alloc (by simp) _⟩
theorem AtF.put {w wr:World} {x:BitVec 256} (h:AtF w wr x) (y:BitVec 256):AtF w (zm9 wr (w.heap.size+1) y) y :=
 ⟨h.h1.put_other (by omega) y,h.h2.put y,zcw h.hb (by omega) y⟩
theorem AtF.drew {w wr:World} {x:BitVec 256} (h:AtF w wr x):AtF w wr.drew x:=h.below (bR wr.heap.size wr).drew h.h2.lt
theorem zjT (s:ByteArray) (i:Nat) (h:i<s.size) (w:World):(Instr.index 9 (.string s) (.int .i64 (i:Int))).run Tryz.prog w=.ok (.int .u8 (s[i].toNat:Int)) w:=by
 have h0:(0:Int)<=(i:Int):=by omega
 have h1:(i:Int)<(s.size:Int):=by omega
 rw [run_index_string _ _ _ _ _ Tryz.underlying9];simp [h0,h1]
def irV (i:Nat):Option (Nat×Nat)->Value
 | none=>.tuple #[.int .i64 (-1),.int .i64 i]
 | some (b,n)=>.tuple #[.int .i64 b,.int .i64 n]
theorem zfb {b n i:Nat} {b' n':Int} (hb:b'=b) (hn:n'=n):Ending.returned (.tuple #[.int .i64 b',.int .i64 n'])=.returned (irV i (some (b,n))):=by rw [hb,hn];rfl
theorem zjU (n:Nat) (h:¬(cls n).2=0):(cls n).2=10:=by
 by_cases hc:65<=n/\n<=90
 ·rcases zdJ (n+32) with he | he
  ·rw [zgQ n hc he] at h;exact absurd rfl h
  ·rw [zjC n hc he]
 ·rw [zeA n hc] at h ⊢
  rcases zdJ n with he | he
  ·exact absurd he h
  ·exact he
def rrV:Rd (BitVec 256×Nat)->Value
 | .inl (x,n)=>.tuple #[sv x,.int .i64 n,.int .i64 0,.int .i64 0]
 | .inr (a,c)=>.tuple #[sv 0#256,.int .i64 0,.int .i64 a,.int .i64 c]
def zn9:Prop:=∀(s:ByteArray) (i:Nat),i<=s.size->s.size<=140737488355328->∀w:World,Calls Tryz.prog 89 #[.string s,.int .i64 i] w (rB w (irV i (zaj s i)))
theorem zjV (s:ByteArray) (i:Int) (h:i<0∨(s.size:Int)<i) (w:World) :
  Calls Tryz.prog 63 #[.string s,.int .i64 i] w (rB w (rrV (zap s i))):=by
 have HF:Hid (zap s i=.inr (0,1)):=(by show zap s i=_;unfold zap;rw [iP h])
 rcases h with h | h
 ·go_enter Tryz.func63,Tryz.ntmps63
  go_wp2
  rw [HF.out];refine bodyPost_ret (v:=rrV (.inr (0,1))) (by simp [results,Tryz.results63,go_sem,rrV,zak, *]) rfl ⟨rfl,?_⟩;exact zaL _ _
 ·have h0:¬i<0:=by omega
  go_enter Tryz.func63,Tryz.ntmps63;go_wp2
  rw [HF.out];refine bodyPost_ret (v:=rrV (.inr (0,1))) (by simp [results,Tryz.results63,go_sem,rrV,zak, *]) rfl ⟨rfl,?_⟩;exact zaL _ _
theorem zih (s:ByteArray) (i:Nat) (hi:i<=s.size) (h:(chr s i != 91)=true) (w:World) :
  Calls Tryz.prog 63 #[.string s,.int .i64 i] w (rB w (rrV (zap s i))):=by
 have HF:Hid (zap s i=.inr (i,6)):=(by show zap s i=_;unfold zap;rw [iN (by omega),iN (by exact bne_iff_ne.1 h)];rfl);have HX:Hid (∀w,Cl 55 #[.string s,.int .i64 i] w (rU w (.int .i64 (chr s i)))):=fun w=>zaZ s i w
 generalize chr s i=c at *;go_enter Tryz.func63,Tryz.ntmps63;go_wp2_with fail;refine (HX _).mono ?_;rintro e w1 ⟨rfl,rfl⟩;go_wp2_with fail;rw [HF.out];refine bodyPost_ret (v:=rrV (.inr (i,6))) (by simp [results,Tryz.results63,go_sem,rrV,zak, *]) rfl ⟨rfl,?_⟩;exact zaL _ _
end Go.Proofs.YtkihfkcmcdiajaaGreatDoor
