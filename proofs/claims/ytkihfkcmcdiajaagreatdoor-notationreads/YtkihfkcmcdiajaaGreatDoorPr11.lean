/- DERIVED. Plain mathematics and walks, laid together (11). -/
import Derived.Test.YtkihfkcmcdiajaaGreatDoorPr10
set_option maxRecDepth 100000
set_option maxHeartbeats 8000000
namespace Go.Proofs.YtkihfkcmcdiajaaGreatDoor
open Go.RowKit
theorem zgY (HI:zop) (s:ByteArray) (n:Nat) (hn:n<s.size) (hs:s.size<=140737488355328) (h1:chr s n=91) (h2:(chr s (n+1)==94)=false) (w:World) :
  Calls Tryz.prog 63 #[.string s,.int .i64 n] w (rB w (rrV (zfM (zaf s (s.size+1) 0#256 (n+1))))):=by
 have HIT:=hO HI;clear HI;have HX:Hid (∀w,Cl 55 #[.string s,.int .i64 n] w (rU w (.int .i64 91))):=fun w=>by have h:=za0 s n w;rw [h1] at h;exact h
 have HY:Hid (∀w,Cl 55 #[.string s,.int .i64 ((n:Int)+1)] w (rU w (.int .i64 (chr s (n+1))))):=fun w=>za0 s (n+1) w
 have HA:=hO (AtF.start w);generalize hR:zaf s (s.size+1) 0#256 (n+1)=R;have HR:=hO hR;generalize chr s (n+1)=d at *;clear hR h1;go_enter Tryz.func63,Tryz.ntmps63;go_wp2_with fail;refine (HX _).mono ?_;rintro e w1 ⟨rfl,rfl⟩;go_wp2_with fail;refine (HY _).mono ?_;rintro e w1 ⟨rfl,rfl⟩;go_wp2_with fail;go_loopw [8] (fun t wr=>∃k:Nat,∃f:Nat,∃x:BitVec 256,k<=s.size/\t=.int .i64 k/\Hid (s.size+1<=f+k)/\Hid (zaf s f x k=R)/\Hid (AtF w wr x)) (fun t _=>s.size - (intOf t).toNat)
 case atStart=>exact ⟨n+1,s.size+1,0#256,by omega,by go_num,show _<=_ by omega,HR,HA⟩
 case round =>
  obtain ⟨k,f,x,hk,rfl,hf,hr,ha⟩:=hrel;obtain ⟨g,rfl⟩:∃g,f=g+1:=⟨f - 1,by have h:=hf.out;omega⟩;clear HA HR HX HY h2;have HC:Hid (∀w,Cl 55 #[.string s,.int .i64 k] w (rU w (.int .i64 (chr s k)))):=fun w=>za0 s k w
  by_cases h93:chr s k=93
  ·have hr':Hid (R=.inl (x,k)):=(hr.out.symm.trans (zbj h93))
   rw [h93] at HC;clear hr hf h93 HIT;have hl:w.heap.size+1<wr.heap.size:=ha.out.h2.lt;obtain ⟨_,c0,c1,c2,c3,f0,f1,f2,f3⟩:=ha.out.h1;obtain ⟨_,d0,d1,d2,d3,g0,g1,g2,g3⟩:=ha.out.h2;go_wp2_with fail;refine (HC _).mono ?_;rintro e w1 ⟨rfl,rfl⟩;go_wp2_with fail;rw [hr'.out];refine bodyPost_ret (v:=rrV (.inl (x,k+1))) (by simp [results,Tryz.results63,go_sem,rrV,zak, *]) rfl ⟨rfl,?_⟩;exact zcx ha.out.hb (nL _) x
  have e93:(chr s k != 93)=true:=bne_iff_ne.2 h93;by_cases h37:chr s k=37
  ·have HM:Hid (zab s k=zaW s k):=(by show zab s k=_;unfold zab;rw [iP h37])
   have HD:Hid (∀w,Cl 55 #[.string s,.int .i64 ((k:Int)+1)] w (rU w (.int .i64 (chr s (k+1))))):=fun w=>za0 s (k+1) w
   have hlt:k<s.size:=zaB (by rw [h37];omega);by_cases hcl:k+1<s.size/\(cls (chr s (k+1)).toNat).2=0
   ·have hm:zab s k=.inl ((cls (chr s (k+1)).toNat).1,k+2):=by rw [HM.out];unfold zaW;rw [iP hcl]
    have hr':Hid (zaf s g (x ||| (cls (chr s (k+1)).toNat).1) (k+2)=R):=((zaC h93 hm).symm.trans hr.out);have hf':Hid (s.size+1<=g+(k+2)):=(by have h:=hf.out;show _<=_;omega);have hb:=zbg s (k+1);have h0:0<=chr s (k+1):=by rw [zam hcl.1];omega
    have HK:Hid (∀w,Cl 87 #[.int .i64 (chr s (k+1))] w (rB w (.tuple #[sv (cls (chr s (k+1)).toNat).1,.int .i64 0]))):=fun w=>by
     have h:=zbs (chr s (k+1)).toNat (by omega) w;rw [hcl.2,show (((chr s (k+1)).toNat:Nat):Int)=chr s (k+1) from by omega] at h;exact h
    have hk2:k+2<=s.size:=by omega
    rw [h37] at HC e93;clear hr hf h93 HIT hcl hm HM h37 hb h0;generalize (cls (chr s (k+1)).toNat).1=y at *;generalize chr s (k+1)=q at *;go_wp2_with fail;refine (HC _).mono ?_;rintro e w1 ⟨rfl,rfl⟩;go_wp2_with fail;refine (HC _).mono ?_;rintro e w1 ⟨rfl,rfl⟩;go_wp2_with fail;refine (HD _).mono ?_;rintro e w1 ⟨rfl,rfl⟩;go_wp2_with fail;refine (HK _).mono ?_;rintro e w2 ⟨rfl,hb2⟩;have HA1:=hO (ha.out.below hb2 ha.out.h2.lt);have hl:w.heap.size+1<w2.heap.size:=HA1.h2.lt;have HA2:Hid (AtF w (w2.alloc (c4 y)) x):=HA1.below (B:=w2.heap.size) (zaM _ _) hl;clear hb2 ha HA1;obtain ⟨_,c0,c1,c2,c3,f0,f1,f2,f3⟩:=HA2.h2;go_wp2_with fail;refine (zas x y _).mono ?_;rintro e w3 ⟨rfl,hb3⟩;have HA3:=hO (HA2.below hb3 HA2.h2.lt);clear hb3 HA2 c0 c1 c2 c3 f0 f1 f2 f3;obtain ⟨_,c0,c1,c2,c3,f0,f1,f2,f3⟩:=HA3.h2;go_wp2_with fail;go_roundw
    case rel=>exact ⟨k+2,g,x ||| y,hk2,by go_num,hf',hr',HA3.put (x ||| y)⟩
    case measure=>simp [intOf];omega
   ·have hm:zab s k=.inr (k,10):=by rw [HM.out];unfold zaW;rw [iN hcl]
    have hr':Hid (R=.inr (k,10)):=(hr.out.symm.trans (zaA h93 hm));have HK:Hid (∀w,Cl 87 #[.int .i64 (chr s (k+1))] w fun e w'=>(∃y,e=.returned (.tuple #[sv y,.int .i64 10]))/\Below w.heap.size w w'):=fun w=>by
     by_cases hlt1:k+1<s.size
     ·have h0:0<=chr s (k+1):=by rw [zam hlt1];omega
      have hb:=zbg s (k+1);have h:=zbs (chr s (k+1)).toNat (by omega) w;rw [show (((chr s (k+1)).toNat:Nat):Int)=chr s (k+1) from by omega,zj4 _ (fun q=>hcl ⟨hlt1,q⟩)] at h;refine h.mono ?_;rintro e w' ⟨rfl,hb⟩;exact ⟨⟨_,rfl⟩,hb⟩
     ·refine (zc1 (chr s (k+1)) w (by rw [zau hlt1];omega)).mono ?_
      rintro e w' ⟨rfl,hb⟩;exact ⟨⟨_,rfl⟩,hb⟩
    rw [h37] at HC e93;clear hr hf h93 HIT hcl hm HM h37;generalize chr s (k+1)=q at *;go_wp2_with fail;refine (HC _).mono ?_;rintro e w1 ⟨rfl,rfl⟩;go_wp2_with fail;refine (HC _).mono ?_;rintro e w1 ⟨rfl,rfl⟩;go_wp2_with fail;refine (HD _).mono ?_;rintro e w1 ⟨rfl,rfl⟩;go_wp2_with fail;refine (HK _).mono ?_;rintro e w2 ⟨⟨y,rfl⟩,hb2⟩;have HA1:=hO (ha.out.below hb2 ha.out.h2.lt);have hl:w.heap.size+1<w2.heap.size:=HA1.h2.lt;have HA2:Hid (AtF w (w2.alloc (c4 y)) x):=HA1.below (B:=w2.heap.size) (zaM _ _) hl;clear hb2 ha HA1;obtain ⟨_,c0,c1,c2,c3,f0,f1,f2,f3⟩:=HA2.h1;go_wp2_with fail;rw [hr'.out];refine bodyPost_ret (v:=rrV (.inr ((k),10))) (by simp [results,Tryz.results63,go_sem,rrV,zak, *]) rfl ⟨rfl,?_⟩;exact (((HA2.hb.setCell (nL _) _).setCell (nL _) _).setCell (nL _) _).setCell (nL _) _
  have e37:(chr s k==37)=false:=bF h37
  cases hit:zaj s k with
  | none =>
   have hm:zab s k=.inr (k,6):=by unfold zab;rw [iN h37,hit]
   have hr':Hid (R=.inr (k,6)):=(hr.out.symm.trans (zaA h93 hm));have HK:Hid (∀w,Cl 89 #[.string s,.int .i64 k] w (rB w (.tuple #[.int .i64 (-1),.int .i64 k]))):=fun w=>by have h:=HIT s k hk hs w;rw [hit] at h;exact h
   clear hr hf h93 h37 HIT hm hit;generalize chr s k=c at *;go_wp2_with fail;refine (HC _).mono ?_;rintro e w1 ⟨rfl,rfl⟩;go_wp2_with fail;refine (HC _).mono ?_;rintro e w1 ⟨rfl,rfl⟩;go_wp2_with fail;refine (HK _).mono ?_;rintro e w2 ⟨rfl,hb2⟩;have HA1:=hO (ha.out.below hb2 ha.out.h2.lt);have hl:w.heap.size+1<w2.heap.size:=HA1.h2.lt;clear hb2 ha;obtain ⟨_,c0,c1,c2,c3,f0,f1,f2,f3⟩:=HA1.h1;go_wp2_with fail;rw [hr'.out];refine bodyPost_ret (v:=rrV (.inr ((k),6))) (by simp [results,Tryz.results63,go_sem,rrV,zak, *]) rfl ⟨rfl,?_⟩;exact (((HA1.hb.setCell (nL _) _).setCell (nL _) _).setCell (nL _) _).setCell (nL _) _
  | some p =>
   obtain ⟨lo,nx⟩:=p;obtain ⟨b1,b2,b3⟩:=za9 hit;have HK:Hid (∀w,Cl 89 #[.string s,.int .i64 k] w (rB w (.tuple #[.int .i64 lo,.int .i64 nx]))):=fun w=>by have h:=HIT s k hk hs w;rw [hit] at h;exact h
   have HN:Hid (∀w,Cl 55 #[.string s,.int .i64 nx] w (rU w (.int .i64 (chr s nx)))):=fun w=>za0 s nx w
   have hlo0:¬(lo:Int)<0:=by omega
   by_cases h45:chr s nx=45
   ·have hltn:nx<s.size:=zaB (by rw [h45];omega)
    rw [h45] at HN
    cases hi2:zaj s (nx+1) with
    | none =>
     have hm:zab s k=.inr ((nx+1),6):=by unfold zab;rw [iN h37,hit];exact (iP h45).trans (by rw [hi2])
     have hr':Hid (R=.inr ((nx+1),6)):=(hr.out.symm.trans (zaA h93 hm));have HL:Hid (∀w,Cl 89 #[.string s,.int .i64 ((nx:Int)+1)] w (rB w (.tuple #[.int .i64 (-1),.int .i64 ((nx+1:Nat):Int)]))):=fun w=>by have h:=HIT s (nx+1) (by omega) hs w;rw [hi2] at h;exact h
     clear hr hf h93 h37 HIT hm hit hi2 h45;generalize chr s k=c at *;go_wp2_with fail;refine (HC _).mono ?_;rintro e w1 ⟨rfl,rfl⟩;go_wp2_with fail;refine (HC _).mono ?_;rintro e w1 ⟨rfl,rfl⟩;go_wp2_with fail;refine (HK _).mono ?_;rintro e w2 ⟨rfl,hb2⟩;have HA1:=hO (ha.out.below hb2 ha.out.h2.lt);clear hb2 ha;go_wp2_with fail;refine (HN _).mono ?_;rintro e w3 ⟨rfl,rfl⟩;go_wp2_with fail;refine (HL _).mono ?_;rintro e w4 ⟨rfl,hb4⟩;have HA2:=hO (HA1.below hb4 HA1.h2.lt);have hl:w.heap.size+1<w4.heap.size:=HA2.h2.lt;clear hb4 HA1;obtain ⟨_,c0,c1,c2,c3,f0,f1,f2,f3⟩:=HA2.h1;go_wp2_with fail;rw [hr'.out];refine bodyPost_ret (v:=rrV (.inr ((nx+1),6))) (by simp [results,Tryz.results63,go_sem,rrV,zak, *]) rfl ⟨rfl,?_⟩;exact (((HA2.hb.setCell (nL _) _).setCell (nL _) _).setCell (nL _) _).setCell (nL _) _
    | some p2 =>
     obtain ⟨up,en⟩:=p2;obtain ⟨b4,b5,b6⟩:=za9 hi2;have HL:Hid (∀w,Cl 89 #[.string s,.int .i64 ((nx:Int)+1)] w (rB w (.tuple #[.int .i64 up,.int .i64 en]))):=fun w=>by have h:=HIT s (nx+1) (by omega) hs w;rw [hi2] at h;exact h
     have hup0:¬(up:Int)<0:=by omega
     by_cases hul:up<lo
     ·have hm:zab s k=.inr (k,1):=by unfold zab;rw [iN h37,hit];exact (iP h45).trans (by rw [hi2];exact iP hul)
      have hr':Hid (R=.inr (k,1)):=(hr.out.symm.trans (zaA h93 hm));have hul':(up:Int)<(lo:Int):=by omega
      clear hr hf h93 h37 HIT hm hit hi2 h45;generalize chr s k=c at *;go_wp2_with fail;refine (HC _).mono ?_;rintro e w1 ⟨rfl,rfl⟩;go_wp2_with fail;refine (HC _).mono ?_;rintro e w1 ⟨rfl,rfl⟩;go_wp2_with fail;refine (HK _).mono ?_;rintro e w2 ⟨rfl,hb2⟩;have HA1:=hO (ha.out.below hb2 ha.out.h2.lt);clear hb2 ha;go_wp2_with fail;refine (HN _).mono ?_;rintro e w3 ⟨rfl,rfl⟩;go_wp2_with fail;refine (HL _).mono ?_;rintro e w4 ⟨rfl,hb4⟩;have HA2:=hO (HA1.below hb4 HA1.h2.lt);have hl:w.heap.size+1<w4.heap.size:=HA2.h2.lt;clear hb4 HA1;obtain ⟨_,c0,c1,c2,c3,f0,f1,f2,f3⟩:=HA2.h1;go_wp2_with fail;rw [hr'.out];refine bodyPost_ret (v:=rrV (.inr ((k),1))) (by simp [results,Tryz.results63,go_sem,rrV,zak, *]) rfl ⟨rfl,?_⟩;exact (((HA2.hb.setCell (nL _) _).setCell (nL _) _).setCell (nL _) _).setCell (nL _) _
     ·have hm:zab s k=.inl (spn lo up,en):=by unfold zab;rw [iN h37,hit];exact (iP h45).trans (by rw [hi2];exact iN hul)
      have hr':Hid (zaf s g (x ||| spn lo up) en=R):=((zaC h93 hm).symm.trans hr.out);have hf':Hid (s.size+1<=g+en):=(by have h:=hf.out;show _<=_;omega);have hul':¬(up:Int)<(lo:Int):=by omega
      have HFT:Hid (∀w,Cl 90 #[.int .i64 lo,.int .i64 up] w (rB w (sv (spn lo up)))):=fun w=>zad lo up w (by omega) (by omega) (by omega)
      clear hr hf h93 h37 HIT hm hit hi2 h45;generalize spn (lo:Int) (up:Int)=y at *;generalize chr s k=c at *;go_wp2_with fail;refine (HC _).mono ?_;rintro e w1 ⟨rfl,rfl⟩;go_wp2_with fail;refine (HC _).mono ?_;rintro e w1 ⟨rfl,rfl⟩;go_wp2_with fail;refine (HK _).mono ?_;rintro e w2 ⟨rfl,hb2⟩;have HA1:=hO (ha.out.below hb2 ha.out.h2.lt);clear hb2 ha;go_wp2_with fail;refine (HN _).mono ?_;rintro e w3 ⟨rfl,rfl⟩;go_wp2_with fail;refine (HL _).mono ?_;rintro e w4 ⟨rfl,hb4⟩;have HA2:=hO (HA1.below hb4 HA1.h2.lt);clear hb4 HA1;obtain ⟨l0,c0,c1,c2,c3,f0,f1,f2,f3⟩:=HA2.h2;go_wp2_with fail;go_region_with (first | (go_at_call 90;refine (HFT.out _).mono ?_;rintro e w5 ⟨rfl,hb⟩;have hA2:=(show AtF w w5 x from (by first | exact HA2.out.below hb HA2.out.h2.lt | exact HA2.out.drew.below hb HA2.out.h2.lt));replace HA2:=(show Hid _ from hA2);clear hA2 hb c0 c1 c2 c3 f0 f1 f2 f3;obtain ⟨_,c0,c1,c2,c3,f0,f1,f2,f3⟩:=HA2.out.h2) | (go_at_call 88;refine (zas x y _).mono ?_;rintro e w6 ⟨rfl,hb⟩;have hA2:=(show AtF w w6 x from (by first | exact HA2.out.below hb HA2.out.h2.lt | exact HA2.out.drew.below hb HA2.out.h2.lt));replace HA2:=(show Hid _ from hA2);clear hA2 hb c0 c1 c2 c3 f0 f1 f2 f3;obtain ⟨_,c0,c1,c2,c3,f0,f1,f2,f3⟩:=HA2.out.h2))
      all_goals
       go_wp2
       go_roundw
       case rel=>exact ⟨en,g,x ||| y,b6,by go_num,hf',hr',HA2.put _⟩
       case measure=>simp [intOf];omega
   ·have hm:zab s k=.inl (spn lo lo,nx):=by unfold zab;rw [iN h37,hit];exact iN h45
    have hr':Hid (zaf s g (x ||| spn lo lo) nx=R):=((zaC h93 hm).symm.trans hr.out);have hf':Hid (s.size+1<=g+nx):=(by have h:=hf.out;show _<=_;omega);have e45:(chr s nx==45)=false:=bF h45;have HFT:Hid (∀w,Cl 90 #[.int .i64 lo,.int .i64 lo] w (rB w (sv (spn lo lo)))):=fun w=>zad lo lo w (by omega) (by omega) (by omega)
    clear hr hf h93 h37 HIT hm hit h45;generalize spn (lo:Int) (lo:Int)=y at *;generalize chr s nx=q at *;generalize chr s k=c at *;go_wp2_with fail;refine (HC _).mono ?_;rintro e w1 ⟨rfl,rfl⟩;go_wp2_with fail;refine (HC _).mono ?_;rintro e w1 ⟨rfl,rfl⟩;go_wp2_with fail;refine (HK _).mono ?_;rintro e w2 ⟨rfl,hb2⟩;have HA2:=hO (ha.out.below hb2 ha.out.h2.lt);clear hb2 ha;go_wp2_with fail;refine (HN _).mono ?_;rintro e w3 ⟨rfl,rfl⟩;obtain ⟨l0,c0,c1,c2,c3,f0,f1,f2,f3⟩:=HA2.h2;go_wp2_with fail;go_region_with (first | (go_at_call 90;refine (HFT.out _).mono ?_;rintro e w5 ⟨rfl,hb⟩;have hA2:=(show AtF w w5 x from (by first | exact HA2.out.below hb HA2.out.h2.lt | exact HA2.out.drew.below hb HA2.out.h2.lt));replace HA2:=(show Hid _ from hA2);clear hA2 hb c0 c1 c2 c3 f0 f1 f2 f3;obtain ⟨_,c0,c1,c2,c3,f0,f1,f2,f3⟩:=HA2.out.h2) | (go_at_call 88;refine (zas x y _).mono ?_;rintro e w6 ⟨rfl,hb⟩;have hA2:=(show AtF w w6 x from (by first | exact HA2.out.below hb HA2.out.h2.lt | exact HA2.out.drew.below hb HA2.out.h2.lt));replace HA2:=(show Hid _ from hA2);clear hA2 hb c0 c1 c2 c3 f0 f1 f2 f3;obtain ⟨_,c0,c1,c2,c3,f0,f1,f2,f3⟩:=HA2.out.h2))
    all_goals
     go_wp2
     go_roundw
     case rel=>exact ⟨nx,g,x ||| y,b3,by go_num,hf',hr',HA2.put _⟩
     case measure=>simp [intOf];omega
theorem zin (HI:zop) (s:ByteArray) (n:Nat) (hn:n+1<s.size) (hs:s.size<=140737488355328) (h1:chr s n=91) (h2:(chr s (n+1)==94)=true) (w:World) :
  Calls Tryz.prog 63 #[.string s,.int .i64 n] w (rB w (rrV (zcT (zaf s (s.size+1) 0#256 (n+2))))):=by
 have HIT:=hO HI;clear HI;have HX:Hid (∀w,Cl 55 #[.string s,.int .i64 n] w (rU w (.int .i64 91))):=fun w=>by have h:=za0 s n w;rw [h1] at h;exact h
 have HY:Hid (∀w,Cl 55 #[.string s,.int .i64 ((n:Int)+1)] w (rU w (.int .i64 (chr s (n+1))))):=fun w=>za0 s (n+1) w
 have HA:=hO (AtF.start w);generalize hR:zaf s (s.size+1) 0#256 (n+2)=R;have HR:=hO hR;generalize chr s (n+1)=d at *;clear hR h1;go_enter Tryz.func63,Tryz.ntmps63;go_wp2_with fail;refine (HX _).mono ?_;rintro e w1 ⟨rfl,rfl⟩;go_wp2_with fail;refine (HY _).mono ?_;rintro e w1 ⟨rfl,rfl⟩;go_wp2_with fail;go_loopw [8] (fun t wr=>∃k:Nat,∃f:Nat,∃x:BitVec 256,k<=s.size/\t=.int .i64 k/\Hid (s.size+1<=f+k)/\Hid (zaf s f x k=R)/\Hid (AtF w wr x)) (fun t _=>s.size - (intOf t).toNat)
 case atStart=>exact ⟨n+2,s.size+1,0#256,by omega,by go_num,show _<=_ by omega,HR,HA⟩
 case round =>
  obtain ⟨k,f,x,hk,rfl,hf,hr,ha⟩:=hrel;obtain ⟨g,rfl⟩:∃g,f=g+1:=⟨f - 1,by have h:=hf.out;omega⟩;clear HA HR HX HY h2;have HC:Hid (∀w,Cl 55 #[.string s,.int .i64 k] w (rU w (.int .i64 (chr s k)))):=fun w=>za0 s k w
  by_cases h93:chr s k=93
  ·have hr':Hid (R=.inl (x,k)):=(hr.out.symm.trans (zbj h93))
   rw [h93] at HC;clear hr hf h93 HIT;have hl:w.heap.size+1<wr.heap.size:=ha.out.h2.lt;obtain ⟨_,c0,c1,c2,c3,f0,f1,f2,f3⟩:=ha.out.h1;obtain ⟨_,d0,d1,d2,d3,g0,g1,g2,g3⟩:=ha.out.h2;go_wp2_with fail;refine (HC _).mono ?_;rintro e w1 ⟨rfl,rfl⟩;go_wp2_with fail;refine (zhp x _).mono ?_;rintro e w2 ⟨rfl,hb2⟩;have HA2:=hO (ha.out.below hb2 ha.out.h2.lt);have hl2:w.heap.size+1<w2.heap.size:=HA2.h2.lt;clear hb2 ha c0 c1 c2 c3 f0 f1 f2 f3 d0 d1 d2 d3 g0 g1 g2 g3;obtain ⟨_,c0,c1,c2,c3,f0,f1,f2,f3⟩:=HA2.h1;obtain ⟨_,d0,d1,d2,d3,g0,g1,g2,g3⟩:=HA2.h2;have HRT:Hid (zcT R=.inl (~~~ x,k+1)):=(by show zcT R=_;rw [hr'.out];rfl);generalize ~~~ x=y at *;go_wp2_with fail;rw [HRT.out];refine bodyPost_ret (v:=rrV (.inl (y,k+1))) (by simp [results,Tryz.results63,go_sem,rrV,zak, *]) rfl ⟨rfl,?_⟩;exact zcx (zcx HA2.hb (by omega) y) (nL _) y
  have e93:(chr s k != 93)=true:=bne_iff_ne.2 h93;by_cases h37:chr s k=37
  ·have HM:Hid (zab s k=zaW s k):=(by show zab s k=_;unfold zab;rw [iP h37])
   have HD:Hid (∀w,Cl 55 #[.string s,.int .i64 ((k:Int)+1)] w (rU w (.int .i64 (chr s (k+1))))):=fun w=>za0 s (k+1) w
   have hlt:k<s.size:=zaB (by rw [h37];omega);by_cases hcl:k+1<s.size/\(cls (chr s (k+1)).toNat).2=0
   ·have hm:zab s k=.inl ((cls (chr s (k+1)).toNat).1,k+2):=by rw [HM.out];unfold zaW;rw [iP hcl]
    have hr':Hid (zaf s g (x ||| (cls (chr s (k+1)).toNat).1) (k+2)=R):=((zaC h93 hm).symm.trans hr.out);have hf':Hid (s.size+1<=g+(k+2)):=(by have h:=hf.out;show _<=_;omega);have hb:=zbg s (k+1);have h0:0<=chr s (k+1):=by rw [zam hcl.1];omega
    have HK:Hid (∀w,Cl 87 #[.int .i64 (chr s (k+1))] w (rB w (.tuple #[sv (cls (chr s (k+1)).toNat).1,.int .i64 0]))):=fun w=>by
     have h:=zbs (chr s (k+1)).toNat (by omega) w;rw [hcl.2,show (((chr s (k+1)).toNat:Nat):Int)=chr s (k+1) from by omega] at h;exact h
    have hk2:k+2<=s.size:=by omega
    rw [h37] at HC e93;clear hr hf h93 HIT hcl hm HM h37 hb h0;generalize (cls (chr s (k+1)).toNat).1=y at *;generalize chr s (k+1)=q at *;go_wp2_with fail;refine (HC _).mono ?_;rintro e w1 ⟨rfl,rfl⟩;go_wp2_with fail;refine (HC _).mono ?_;rintro e w1 ⟨rfl,rfl⟩;go_wp2_with fail;refine (HD _).mono ?_;rintro e w1 ⟨rfl,rfl⟩;go_wp2_with fail;refine (HK _).mono ?_;rintro e w2 ⟨rfl,hb2⟩;have HA1:=hO (ha.out.below hb2 ha.out.h2.lt);have hl:w.heap.size+1<w2.heap.size:=HA1.h2.lt;have HA2:Hid (AtF w (w2.alloc (c4 y)) x):=HA1.below (B:=w2.heap.size) (zaM _ _) hl;clear hb2 ha HA1;obtain ⟨_,c0,c1,c2,c3,f0,f1,f2,f3⟩:=HA2.h2;go_wp2_with fail;refine (zas x y _).mono ?_;rintro e w3 ⟨rfl,hb3⟩;have HA3:=hO (HA2.below hb3 HA2.h2.lt);clear hb3 HA2 c0 c1 c2 c3 f0 f1 f2 f3;obtain ⟨_,c0,c1,c2,c3,f0,f1,f2,f3⟩:=HA3.h2;go_wp2_with fail;go_roundw
    case rel=>exact ⟨k+2,g,x ||| y,hk2,by go_num,hf',hr',HA3.put (x ||| y)⟩
    case measure=>simp [intOf];omega
   ·have hm:zab s k=.inr (k,10):=by rw [HM.out];unfold zaW;rw [iN hcl]
    have hr':Hid (R=.inr (k,10)):=(hr.out.symm.trans (zaA h93 hm));have HK:Hid (∀w,Cl 87 #[.int .i64 (chr s (k+1))] w fun e w'=>(∃y,e=.returned (.tuple #[sv y,.int .i64 10]))/\Below w.heap.size w w'):=fun w=>by
     by_cases hlt1:k+1<s.size
     ·have h0:0<=chr s (k+1):=by rw [zam hlt1];omega
      have hb:=zbg s (k+1);have h:=zbs (chr s (k+1)).toNat (by omega) w;rw [show (((chr s (k+1)).toNat:Nat):Int)=chr s (k+1) from by omega,zj4 _ (fun q=>hcl ⟨hlt1,q⟩)] at h;refine h.mono ?_;rintro e w' ⟨rfl,hb⟩;exact ⟨⟨_,rfl⟩,hb⟩
     ·refine (zc1 (chr s (k+1)) w (by rw [zau hlt1];omega)).mono ?_
      rintro e w' ⟨rfl,hb⟩;exact ⟨⟨_,rfl⟩,hb⟩
    rw [h37] at HC e93;clear hr hf h93 HIT hcl hm HM h37;generalize chr s (k+1)=q at *;go_wp2_with fail;refine (HC _).mono ?_;rintro e w1 ⟨rfl,rfl⟩;go_wp2_with fail;refine (HC _).mono ?_;rintro e w1 ⟨rfl,rfl⟩;go_wp2_with fail;refine (HD _).mono ?_;rintro e w1 ⟨rfl,rfl⟩;go_wp2_with fail;refine (HK _).mono ?_;rintro e w2 ⟨⟨y,rfl⟩,hb2⟩;have HA1:=hO (ha.out.below hb2 ha.out.h2.lt);have hl:w.heap.size+1<w2.heap.size:=HA1.h2.lt;have HA2:Hid (AtF w (w2.alloc (c4 y)) x):=HA1.below (B:=w2.heap.size) (zaM _ _) hl;clear hb2 ha HA1;obtain ⟨_,c0,c1,c2,c3,f0,f1,f2,f3⟩:=HA2.h1;go_wp2_with fail;rw [hr'.out];refine bodyPost_ret (v:=rrV (.inr ((k),10))) (by simp [results,Tryz.results63,go_sem,rrV,zak, *]) rfl ⟨rfl,?_⟩;exact (((HA2.hb.setCell (nL _) _).setCell (nL _) _).setCell (nL _) _).setCell (nL _) _
  have e37:(chr s k==37)=false:=bF h37
  cases hit:zaj s k with
  | none =>
   have hm:zab s k=.inr (k,6):=by unfold zab;rw [iN h37,hit]
   have hr':Hid (R=.inr (k,6)):=(hr.out.symm.trans (zaA h93 hm));have HK:Hid (∀w,Cl 89 #[.string s,.int .i64 k] w (rB w (.tuple #[.int .i64 (-1),.int .i64 k]))):=fun w=>by have h:=HIT s k hk hs w;rw [hit] at h;exact h
   clear hr hf h93 h37 HIT hm hit;generalize chr s k=c at *;go_wp2_with fail;refine (HC _).mono ?_;rintro e w1 ⟨rfl,rfl⟩;go_wp2_with fail;refine (HC _).mono ?_;rintro e w1 ⟨rfl,rfl⟩;go_wp2_with fail;refine (HK _).mono ?_;rintro e w2 ⟨rfl,hb2⟩;have HA1:=hO (ha.out.below hb2 ha.out.h2.lt);have hl:w.heap.size+1<w2.heap.size:=HA1.h2.lt;clear hb2 ha;obtain ⟨_,c0,c1,c2,c3,f0,f1,f2,f3⟩:=HA1.h1;go_wp2_with fail;rw [hr'.out];refine bodyPost_ret (v:=rrV (.inr ((k),6))) (by simp [results,Tryz.results63,go_sem,rrV,zak, *]) rfl ⟨rfl,?_⟩;exact (((HA1.hb.setCell (nL _) _).setCell (nL _) _).setCell (nL _) _).setCell (nL _) _
  | some p =>
   obtain ⟨lo,nx⟩:=p;obtain ⟨b1,b2,b3⟩:=za9 hit;have HK:Hid (∀w,Cl 89 #[.string s,.int .i64 k] w (rB w (.tuple #[.int .i64 lo,.int .i64 nx]))):=fun w=>by have h:=HIT s k hk hs w;rw [hit] at h;exact h
   have HN:Hid (∀w,Cl 55 #[.string s,.int .i64 nx] w (rU w (.int .i64 (chr s nx)))):=fun w=>za0 s nx w
   have hlo0:¬(lo:Int)<0:=by omega
   by_cases h45:chr s nx=45
   ·have hltn:nx<s.size:=zaB (by rw [h45];omega)
    rw [h45] at HN
    cases hi2:zaj s (nx+1) with
    | none =>
     have hm:zab s k=.inr ((nx+1),6):=by unfold zab;rw [iN h37,hit];exact (iP h45).trans (by rw [hi2])
     have hr':Hid (R=.inr ((nx+1),6)):=(hr.out.symm.trans (zaA h93 hm));have HL:Hid (∀w,Cl 89 #[.string s,.int .i64 ((nx:Int)+1)] w (rB w (.tuple #[.int .i64 (-1),.int .i64 ((nx+1:Nat):Int)]))):=fun w=>by have h:=HIT s (nx+1) (by omega) hs w;rw [hi2] at h;exact h
     clear hr hf h93 h37 HIT hm hit hi2 h45;generalize chr s k=c at *;go_wp2_with fail;refine (HC _).mono ?_;rintro e w1 ⟨rfl,rfl⟩;go_wp2_with fail;refine (HC _).mono ?_;rintro e w1 ⟨rfl,rfl⟩;go_wp2_with fail;refine (HK _).mono ?_;rintro e w2 ⟨rfl,hb2⟩;have HA1:=hO (ha.out.below hb2 ha.out.h2.lt);clear hb2 ha;go_wp2_with fail;refine (HN _).mono ?_;rintro e w3 ⟨rfl,rfl⟩;go_wp2_with fail;refine (HL _).mono ?_;rintro e w4 ⟨rfl,hb4⟩;have HA2:=hO (HA1.below hb4 HA1.h2.lt);have hl:w.heap.size+1<w4.heap.size:=HA2.h2.lt;clear hb4 HA1;obtain ⟨_,c0,c1,c2,c3,f0,f1,f2,f3⟩:=HA2.h1;go_wp2_with fail;rw [hr'.out];refine bodyPost_ret (v:=rrV (.inr ((nx+1),6))) (by simp [results,Tryz.results63,go_sem,rrV,zak, *]) rfl ⟨rfl,?_⟩;exact (((HA2.hb.setCell (nL _) _).setCell (nL _) _).setCell (nL _) _).setCell (nL _) _
    | some p2 =>
     obtain ⟨up,en⟩:=p2;obtain ⟨b4,b5,b6⟩:=za9 hi2;have HL:Hid (∀w,Cl 89 #[.string s,.int .i64 ((nx:Int)+1)] w (rB w (.tuple #[.int .i64 up,.int .i64 en]))):=fun w=>by have h:=HIT s (nx+1) (by omega) hs w;rw [hi2] at h;exact h
     have hup0:¬(up:Int)<0:=by omega
     by_cases hul:up<lo
     ·have hm:zab s k=.inr (k,1):=by unfold zab;rw [iN h37,hit];exact (iP h45).trans (by rw [hi2];exact iP hul)
      have hr':Hid (R=.inr (k,1)):=(hr.out.symm.trans (zaA h93 hm));have hul':(up:Int)<(lo:Int):=by omega
      clear hr hf h93 h37 HIT hm hit hi2 h45;generalize chr s k=c at *;go_wp2_with fail;refine (HC _).mono ?_;rintro e w1 ⟨rfl,rfl⟩;go_wp2_with fail;refine (HC _).mono ?_;rintro e w1 ⟨rfl,rfl⟩;go_wp2_with fail;refine (HK _).mono ?_;rintro e w2 ⟨rfl,hb2⟩;have HA1:=hO (ha.out.below hb2 ha.out.h2.lt);clear hb2 ha;go_wp2_with fail;refine (HN _).mono ?_;rintro e w3 ⟨rfl,rfl⟩;go_wp2_with fail;refine (HL _).mono ?_;rintro e w4 ⟨rfl,hb4⟩;have HA2:=hO (HA1.below hb4 HA1.h2.lt);have hl:w.heap.size+1<w4.heap.size:=HA2.h2.lt;clear hb4 HA1;obtain ⟨_,c0,c1,c2,c3,f0,f1,f2,f3⟩:=HA2.h1;go_wp2_with fail;rw [hr'.out];refine bodyPost_ret (v:=rrV (.inr ((k),1))) (by simp [results,Tryz.results63,go_sem,rrV,zak, *]) rfl ⟨rfl,?_⟩;exact (((HA2.hb.setCell (nL _) _).setCell (nL _) _).setCell (nL _) _).setCell (nL _) _
     ·have hm:zab s k=.inl (spn lo up,en):=by unfold zab;rw [iN h37,hit];exact (iP h45).trans (by rw [hi2];exact iN hul)
      have hr':Hid (zaf s g (x ||| spn lo up) en=R):=((zaC h93 hm).symm.trans hr.out);have hf':Hid (s.size+1<=g+en):=(by have h:=hf.out;show _<=_;omega);have hul':¬(up:Int)<(lo:Int):=by omega
      have HFT:Hid (∀w,Cl 90 #[.int .i64 lo,.int .i64 up] w (rB w (sv (spn lo up)))):=fun w=>zad lo up w (by omega) (by omega) (by omega)
      clear hr hf h93 h37 HIT hm hit hi2 h45;generalize spn (lo:Int) (up:Int)=y at *;generalize chr s k=c at *;go_wp2_with fail;refine (HC _).mono ?_;rintro e w1 ⟨rfl,rfl⟩;go_wp2_with fail;refine (HC _).mono ?_;rintro e w1 ⟨rfl,rfl⟩;go_wp2_with fail;refine (HK _).mono ?_;rintro e w2 ⟨rfl,hb2⟩;have HA1:=hO (ha.out.below hb2 ha.out.h2.lt);clear hb2 ha;go_wp2_with fail;refine (HN _).mono ?_;rintro e w3 ⟨rfl,rfl⟩;go_wp2_with fail;refine (HL _).mono ?_;rintro e w4 ⟨rfl,hb4⟩;have HA2:=hO (HA1.below hb4 HA1.h2.lt);clear hb4 HA1;obtain ⟨l0,c0,c1,c2,c3,f0,f1,f2,f3⟩:=HA2.h2;go_wp2_with fail;go_region_with (first | (go_at_call 90;refine (HFT.out _).mono ?_;rintro e w5 ⟨rfl,hb⟩;have hA2:=(show AtF w w5 x from (by first | exact HA2.out.below hb HA2.out.h2.lt | exact HA2.out.drew.below hb HA2.out.h2.lt));replace HA2:=(show Hid _ from hA2);clear hA2 hb c0 c1 c2 c3 f0 f1 f2 f3;obtain ⟨_,c0,c1,c2,c3,f0,f1,f2,f3⟩:=HA2.out.h2) | (go_at_call 88;refine (zas x y _).mono ?_;rintro e w6 ⟨rfl,hb⟩;have hA2:=(show AtF w w6 x from (by first | exact HA2.out.below hb HA2.out.h2.lt | exact HA2.out.drew.below hb HA2.out.h2.lt));replace HA2:=(show Hid _ from hA2);clear hA2 hb c0 c1 c2 c3 f0 f1 f2 f3;obtain ⟨_,c0,c1,c2,c3,f0,f1,f2,f3⟩:=HA2.out.h2))
      all_goals
       go_wp2
       go_roundw
       case rel=>exact ⟨en,g,x ||| y,b6,by go_num,hf',hr',HA2.put _⟩
       case measure=>simp [intOf];omega
   ·have hm:zab s k=.inl (spn lo lo,nx):=by unfold zab;rw [iN h37,hit];exact iN h45
    have hr':Hid (zaf s g (x ||| spn lo lo) nx=R):=((zaC h93 hm).symm.trans hr.out);have hf':Hid (s.size+1<=g+nx):=(by have h:=hf.out;show _<=_;omega);have e45:(chr s nx==45)=false:=bF h45;have HFT:Hid (∀w,Cl 90 #[.int .i64 lo,.int .i64 lo] w (rB w (sv (spn lo lo)))):=fun w=>zad lo lo w (by omega) (by omega) (by omega)
    clear hr hf h93 h37 HIT hm hit h45;generalize spn (lo:Int) (lo:Int)=y at *;generalize chr s nx=q at *;generalize chr s k=c at *;go_wp2_with fail;refine (HC _).mono ?_;rintro e w1 ⟨rfl,rfl⟩;go_wp2_with fail;refine (HC _).mono ?_;rintro e w1 ⟨rfl,rfl⟩;go_wp2_with fail;refine (HK _).mono ?_;rintro e w2 ⟨rfl,hb2⟩;have HA2:=hO (ha.out.below hb2 ha.out.h2.lt);clear hb2 ha;go_wp2_with fail;refine (HN _).mono ?_;rintro e w3 ⟨rfl,rfl⟩;obtain ⟨l0,c0,c1,c2,c3,f0,f1,f2,f3⟩:=HA2.h2;go_wp2_with fail;go_region_with (first | (go_at_call 90;refine (HFT.out _).mono ?_;rintro e w5 ⟨rfl,hb⟩;have hA2:=(show AtF w w5 x from (by first | exact HA2.out.below hb HA2.out.h2.lt | exact HA2.out.drew.below hb HA2.out.h2.lt));replace HA2:=(show Hid _ from hA2);clear hA2 hb c0 c1 c2 c3 f0 f1 f2 f3;obtain ⟨_,c0,c1,c2,c3,f0,f1,f2,f3⟩:=HA2.out.h2) | (go_at_call 88;refine (zas x y _).mono ?_;rintro e w6 ⟨rfl,hb⟩;have hA2:=(show AtF w w6 x from (by first | exact HA2.out.below hb HA2.out.h2.lt | exact HA2.out.drew.below hb HA2.out.h2.lt));replace HA2:=(show Hid _ from hA2);clear hA2 hb c0 c1 c2 c3 f0 f1 f2 f3;obtain ⟨_,c0,c1,c2,c3,f0,f1,f2,f3⟩:=HA2.out.h2))
    all_goals
     go_wp2
     go_roundw
     case rel=>exact ⟨nx,g,x ||| y,b3,by go_num,hf',hr',HA2.put _⟩
     case measure=>simp [intOf];omega
theorem zgZ (s:ByteArray) (i:Nat) (hi:i<=s.size) (hs:s.size<=140737488355328) (h92:(chr s i != 92)=true) (w:World) :
  Calls Tryz.prog 89 #[.string s,.int .i64 i] w (rB w (irV i (zaj s i))):=by
 have hn92:¬chr s i=92:=bne_iff_ne.1 h92;have hb:=zbg s i;have HE:Hid (zaj s i=if chr s i=93∨chr s i=45∨chr s i=37∨zhq (chr s i)=false then none else some ((chr s i).toNat,i+1)):=(by show zaj s i=_;unfold zaj;rw [iN hn92]);have HX:Hid (∀w,Cl 55 #[.string s,.int .i64 i] w (rU w (.int .i64 (chr s i)))):=fun w=>za0 s i w
 generalize chr s i=c at *;obtain ⟨b0,b1⟩:=hb;by_cases hg:c=93∨c=45∨c=37∨zhq c=false
 ·have HF:Hid (zaj s i=none):=(by show zaj s i=_;rw [HE.out,iP hg])
  by_cases k1:c<32
  ·clear HE hg hn92
   go_enter Tryz.func89,Tryz.ntmps89;go_wp2_with fail;refine (HX _).mono ?_;rintro e w' ⟨rfl,rfl⟩;go_wp2
   go_ret2
   exact ⟨by rw [HF.out];rfl,bR _ _⟩
  by_cases k2:126<c
  ·clear HE hg hn92
   go_enter Tryz.func89,Tryz.ntmps89;go_wp2_with fail;refine (HX _).mono ?_;rintro e w' ⟨rfl,rfl⟩;go_wp2
   go_ret2
   exact ⟨by rw [HF.out];rfl,bR _ _⟩
  have hp:zhq c=true:=by simp [zhq];omega
  rw [hp] at hg
  cases e93:(c==93)
  ·cases e45:(c==45)
   ·have e37:(c==37)=true:=by simp at hg e93 e45 ⊢;omega
    clear HE hg hn92 hp;go_enter Tryz.func89,Tryz.ntmps89;go_wp2_with fail;refine (HX _).mono ?_;rintro e w' ⟨rfl,rfl⟩;go_wp2
    go_ret2
    exact ⟨by rw [HF.out];rfl,bR _ _⟩
   ·clear HE hg hn92 hp
    go_enter Tryz.func89,Tryz.ntmps89;go_wp2_with fail;refine (HX _).mono ?_;rintro e w' ⟨rfl,rfl⟩;go_wp2
    go_ret2
    exact ⟨by rw [HF.out];rfl,bR _ _⟩
  ·clear HE hg hn92 hp
   go_enter Tryz.func89,Tryz.ntmps89;go_wp2_with fail;refine (HX _).mono ?_;rintro e w' ⟨rfl,rfl⟩;go_wp2
   go_ret2
   exact ⟨by rw [HF.out];rfl,bR _ _⟩
 ·have HF:Hid (zaj s i=some (c.toNat,i+1)):=(by show zaj s i=_;rw [HE.out,iN hg])
  have hp:zhq c=true:=by cases h:zhq c with
   | true=>rfl
   | false=>exact absurd (.inr (.inr (.inr h))) hg
  have hp2:32<=c/\c<=126:=by simpa [zhq] using hp
  obtain ⟨k1,k2⟩:=hp2;have k1':¬c<32:=by omega
  have k2':¬126<c:=by omega
  have e93:(c==93)=false:=by simp;intro h;exact hg (.inl h)
  have e45:(c==45)=false:=by simp;intro h;exact hg (.inr (.inl h))
  have e37:(c==37)=false:=by simp;intro h;exact hg (.inr (.inr (.inl h)))
  clear HE hg hn92 hp;go_enter Tryz.func89,Tryz.ntmps89;go_wp2_with fail;refine (HX _).mono ?_;rintro e w' ⟨rfl,rfl⟩;go_wp2
  go_ret2
  exact ⟨by rw [HF.out];exact zfh (by omega) (by omega),bR _ _⟩
theorem zj6 (s:ByteArray) (i:Nat) (hi:i<s.size) (hs:s.size<=140737488355328) (h92:chr s i=92) (w:World) :
  Calls Tryz.prog 89 #[.string s,.int .i64 i] w (rB w (irV i (zaj s i))):=by
 have HX:Hid (∀w,Cl 55 #[.string s,.int .i64 i] w (rU w (.int .i64 92))):=fun w=>by have h:=za0 s i w;rw [h92] at h;exact h
 have HY:Hid (∀w,Cl 55 #[.string s,.int .i64 ((i:Int)+1)] w (rU w (.int .i64 (chr s (i+1))))):=fun w=>za0 s (i+1) w
 have hb:=zbg s (i+1);have HE:Hid (zaj s i=if chr s (i+1)=110 then some (10,i+2) else if chr s (i+1)=114 then some (13,i+2) else if chr s (i+1)=116 then some (9,i+2) else if chr s (i+1)=120 then zbf s i else if zaP (chr s (i+1)) then some ((chr s (i+1)).toNat,i+2) else none):=(by show zaj s i=_;unfold zaj;rw [iP h92];rfl);clear h92;generalize chr s (i+1)=d at *;obtain ⟨b0,b1⟩:=hb;by_cases h110:d=110
 ·have HF:Hid (zaj s i=some (10,i+2)):=(by show zaj s i=_;rw [HE.out,iP h110])
  have e110:(d==110)=true:=beq_iff_eq.2 h110;clear HE h110;go_enter Tryz.func89,Tryz.ntmps89;go_wp2_with fail;refine (HX _).mono ?_;rintro e w' ⟨rfl,rfl⟩;go_wp2_with fail;refine (HY _).mono ?_;rintro e w' ⟨rfl,rfl⟩;go_wp2
  go_ret2
  exact ⟨by rw [HF.out];exact zfh rfl (by omega),bR _ _⟩
 by_cases h114:d=114
 ·have HF:Hid (zaj s i=some (13,i+2)):=(by show zaj s i=_;rw [HE.out,iN h110,iP h114])
  have e110:(d==110)=false:=bF h110;have e114:(d==114)=true:=beq_iff_eq.2 h114;clear HE h110 h114;go_enter Tryz.func89,Tryz.ntmps89;go_wp2_with fail;refine (HX _).mono ?_;rintro e w' ⟨rfl,rfl⟩;go_wp2_with fail;refine (HY _).mono ?_;rintro e w' ⟨rfl,rfl⟩;go_wp2
  go_ret2
  exact ⟨by rw [HF.out];exact zfh rfl (by omega),bR _ _⟩
 by_cases h116:d=116
 ·have HF:Hid (zaj s i=some (9,i+2)):=(by show zaj s i=_;rw [HE.out,iN h110,iN h114,iP h116])
  have e110:(d==110)=false:=bF h110;have e114:(d==114)=false:=bF h114;have e116:(d==116)=true:=beq_iff_eq.2 h116;clear HE h110 h114 h116;go_enter Tryz.func89,Tryz.ntmps89;go_wp2_with fail;refine (HX _).mono ?_;rintro e w' ⟨rfl,rfl⟩;go_wp2_with fail;refine (HY _).mono ?_;rintro e w' ⟨rfl,rfl⟩;go_wp2
  go_ret2
  exact ⟨by rw [HF.out];exact zfh rfl (by omega),bR _ _⟩
 have e110:(d==110)=false:=bF h110;have e114:(d==114)=false:=bF h114;have e116:(d==116)=false:=bF h116;by_cases hd0:d<0
 ·have e120:(d==120)=false:=bF (by omega)
  have HF:Hid (zaj s i=none):=(by show zaj s i=_;rw [HE.out,iN h110,iN h114,iN h116,iN (by omega),iN (by simp [zaP];omega)]);have hd1:¬0<=d:=by omega
  clear HE h110 h114 h116;go_enter Tryz.func89,Tryz.ntmps89;go_wp2_with fail;refine (HX _).mono ?_;rintro e w' ⟨rfl,rfl⟩;go_wp2_with fail;refine (HY _).mono ?_;rintro e w' ⟨rfl,rfl⟩;go_wp2
  go_ret2
  exact ⟨by rw [HF.out];rfl,bR _ _⟩
 have hd1:0<=d:=by omega
 cases hsg:zaP d
 ·by_cases h120:d=120
  ·have HF:Hid (zaj s i=zbf s i):=(by show zaj s i=_;rw [HE.out,iN h110,iN h114,iN h116,iP h120])
   have e120:(d==120)=true:=beq_iff_eq.2 h120;clear HE h110 h114 h116 h120;by_cases h:i+3<s.size
   ·have h2:i+2<s.size:=by omega
    have hb1:=zbh (s[i+2].toNat:Int);have hb2:=zbh (s[i+3].toNat:Int);have HE:Hid (zbf s i=if 0<=zaI (s[i+2].toNat:Int)/\0<=zaI (s[i+3].toNat:Int) then some ((16 * zaI (s[i+2].toNat:Int)+zaI (s[i+3].toNat:Int)).toNat,i+4) else none):=(by show zbf s i=_;unfold zbf;rw [zam h2,zam h]);have HI:Hid (∀w,Cl 115 #[.int .u8 (s[i+2].toNat:Int)] w (rU w (.int .i64 (zaI (s[i+2].toNat:Int))))):=fun w=>zbN _ w
    have HJ:Hid (∀w,Cl 115 #[.int .u8 (s[i+3].toNat:Int)] w (rU w (.int .i64 (zaI (s[i+3].toNat:Int))))):=fun w=>zbN _ w
    have hi0:(0:Int)<=(i:Int):=by omega
    have hi3:(i:Int)+3<(s.size:Int):=by omega
    have hi2:(i:Int)+2<(s.size:Int):=by omega
    generalize zaI (s[i+2].toNat:Int)=x at *;generalize zaI (s[i+3].toNat:Int)=y at *;by_cases hx:0<=x
    ·by_cases hy:0<=y
     ·have HG:Hid (zaj s i=some ((16 * x+y).toNat,i+4)):=(by show zaj s i=_;rw [HF.out,HE.out,iP ⟨hx,hy⟩])
      clear HE HF;go_enter Tryz.func89,Tryz.ntmps89;go_wp2_with fail;refine (HX _).mono ?_;rintro e w' ⟨rfl,rfl⟩;go_wp2_with fail;refine (HY _).mono ?_;rintro e w' ⟨rfl,rfl⟩;go_wp2_with fail;refine (zbG _ _).mono ?_;rintro e w' ⟨rfl,rfl⟩;go_wp2_with fail;refine (HI _).mono ?_;rintro e w' ⟨rfl,rfl⟩;go_wp2_with fail;refine (HJ _).mono ?_;rintro e w' ⟨rfl,rfl⟩;go_wp2_with fail;have q1:IntKind.i64.wrap (x * 16)=x * 16:=by rw [wI];omega
      have q2:IntKind.i64.wrap (x * 16+y)=x * 16+y:=by rw [wI];omega
      have x2:=zj3 s (i+2) h2;have x3:=zj3 s (i+3) h;rw [show ((i+2:Nat):Int)=(i:Int)+2 from by omega] at x2;rw [show ((i+3:Nat):Int)=(i:Int)+3 from by omega] at x3;have z2:(0:Int)<=(i:Int)+2:=by omega
      have z3:(0:Int)<=(i:Int)+3:=by omega
      have v2:IntKind.i64.wrap ((i:Int)+2)=(i:Int)+2:=by rw [wI];omega
      have v3:IntKind.i64.wrap ((i:Int)+3)=(i:Int)+3:=by rw [wI];omega
      have v4:IntKind.i64.wrap ((i:Int)+4)=(i:Int)+4:=by rw [wI];omega
      go_region_held3 (fun _=>True) (trivial) (first | (go_at_call 115;with_reducible refine (HI.out _).mono ?_;rintro e w' ⟨rfl,rfl⟩) | (go_at_call 115;with_reducible refine (HJ.out _).mono ?_;rintro e w' ⟨rfl,rfl⟩))
      all_goals
       go_wp2
       go_ret2
       exact ⟨by rw [HG.out];exact zfh (by omega) (by omega),(bR _ _).drew⟩
     ·have HG:Hid (zaj s i=none):=(by show zaj s i=_;rw [HF.out,HE.out,iN (fun q=>hy q.2)])
      clear HE HF;go_enter Tryz.func89,Tryz.ntmps89;go_wp2_with fail;refine (HX _).mono ?_;rintro e w' ⟨rfl,rfl⟩;go_wp2_with fail;refine (HY _).mono ?_;rintro e w' ⟨rfl,rfl⟩;go_wp2_with fail;refine (zbG _ _).mono ?_;rintro e w' ⟨rfl,rfl⟩;go_wp2_with fail;refine (HI _).mono ?_;rintro e w' ⟨rfl,rfl⟩;go_wp2_with fail;refine (HJ _).mono ?_;rintro e w' ⟨rfl,rfl⟩;go_wp2
      go_ret2
      exact ⟨by rw [HG.out];rfl,bR _ _⟩
    ·have HG:Hid (zaj s i=none):=(by show zaj s i=_;rw [HF.out,HE.out,iN (fun q=>hx q.1)])
     clear HE HF;go_enter Tryz.func89,Tryz.ntmps89;go_wp2_with fail;refine (HX _).mono ?_;rintro e w' ⟨rfl,rfl⟩;go_wp2_with fail;refine (HY _).mono ?_;rintro e w' ⟨rfl,rfl⟩;go_wp2_with fail;refine (zbG _ _).mono ?_;rintro e w' ⟨rfl,rfl⟩;go_wp2_with fail;refine (HI _).mono ?_;rintro e w' ⟨rfl,rfl⟩;go_wp2
     go_ret2
     exact ⟨by rw [HG.out];rfl,bR _ _⟩
   ·have HG:=(show Hid (zaj s i=none) from (by
     show zaj s i=_
     rw [HF.out];unfold zbf;rw [zau h,iN (by rintro ⟨_,q⟩;simp [zaI] at q)]))
    have hi3:¬(i:Int)+3<(s.size:Int):=by omega
    clear HF;go_enter Tryz.func89,Tryz.ntmps89;go_wp2_with fail;refine (HX _).mono ?_;rintro e w' ⟨rfl,rfl⟩;go_wp2_with fail;refine (HY _).mono ?_;rintro e w' ⟨rfl,rfl⟩;go_wp2_with fail;refine (zbG _ _).mono ?_;rintro e w' ⟨rfl,rfl⟩;go_wp2
    go_ret2
    exact ⟨by rw [HG.out];rfl,bR _ _⟩
  ·have e120:(d==120)=false:=bF h120
   have HF:Hid (zaj s i=none):=(by show zaj s i=_;rw [HE.out,iN h110,iN h114,iN h116,iN h120,iN (by rw [hsg];simp)]);clear HE h110 h114 h116 h120;go_enter Tryz.func89,Tryz.ntmps89;go_wp2_with fail;refine (HX _).mono ?_;rintro e w' ⟨rfl,rfl⟩;go_wp2_with fail;refine (HY _).mono ?_;rintro e w' ⟨rfl,rfl⟩;go_wp2_with fail;refine (zbG _ _).mono ?_;rintro e w' ⟨rfl,rfl⟩;go_wp2
   go_ret2
   exact ⟨by rw [HF.out];rfl,bR _ _⟩
 ·have h120:¬d=120:=fun h=>by subst h;simp [zaP] at hsg
  have HF:Hid (zaj s i=some (d.toNat,i+2)):=(by show zaj s i=_;rw [HE.out,iN h110,iN h114,iN h116,iN h120,iP hsg]);clear HE h110 h114 h116 h120;go_enter Tryz.func89,Tryz.ntmps89;go_wp2_with fail;refine (HX _).mono ?_;rintro e w' ⟨rfl,rfl⟩;go_wp2_with fail;refine (HY _).mono ?_;rintro e w' ⟨rfl,rfl⟩;go_wp2_with fail;refine (zbG _ _).mono ?_;rintro e w' ⟨rfl,rfl⟩;go_wp2
  go_ret2
  exact ⟨by rw [HF.out];exact zfh (by omega) (by omega),bR _ _⟩
theorem zj7 (s:ByteArray) (i:Nat) (hi:i<=s.size) (hs:s.size<=140737488355328) (w:World) :
  Calls Tryz.prog 89 #[.string s,.int .i64 i] w (rB w (irV i (zaj s i))):=by
 by_cases h:chr s i=92
 ·exact zj6 s i (zaB (by rw [h];omega)) hs h w
 ·exact zgZ s i hi hs (bne_iff_ne.2 h) w
theorem zj8 (s:ByteArray) (i:Int) (hs:s.size<=140737488355328) (w:World) :
  Calls Tryz.prog 63 #[.string s,.int .i64 i] w (rB w (rrV (zap s i))):=by
 have HI:zop:=fun s i hi hs w=>zj7 s i hi hs w
 by_cases h:i<0∨(s.size:Int)<i
 ·exact zj5 s i h w
 ·obtain ⟨n,rfl⟩:∃n:Nat,i=n:=⟨i.toNat,by omega⟩
  have hn:n<=s.size:=by omega
  by_cases h1:chr s n=91
  ·have hlt:n<s.size:=zaB (by rw [h1];omega)
   cases h2:(chr s (n+1)==94)
   ·have e:zap s n=zfM (zaf s (s.size+1) 0#256 (n+1)):=by
     unfold zap;rw [iN h,Int.toNat_natCast,iP h1,iN (beq_eq_false_iff_ne.1 h2)]
    rw [e];exact zgY HI s n hlt hs h1 h2 w
   ·have hlt2:n+1<s.size:=zaB (by rw [beq_iff_eq.1 h2];omega)
    have e:zap s n=zcT (zaf s (s.size+1) 0#256 (n+2)):=by
     unfold zap;rw [iN h,Int.toNat_natCast,iP h1,iP (beq_iff_eq.1 h2)]
    rw [e];exact zin HI s n hlt2 hs h1 h2 w
  ·exact zim s n hn (bne_iff_ne.2 h1) w
theorem zg0 {s:ByteArray} {i a:Nat} {c:Int} (h:zab s i=.inr (a,c)):c≠0:=by
 unfold zab at h
 split at h
 ·unfold zaW at h
  split at h
  ·cases h
  ·cases h;decide
 ·split at h
  ·cases h;decide
  ·split at h
   ·split at h
    ·cases h;decide
    ·split at h
     ·cases h;decide
     ·cases h
   ·cases h
theorem zd2 {s:ByteArray}:∀(f:Nat) (x:BitVec 256) (i a:Nat) (c:Int),zaf s f x i=.inr (a,c)->c≠0:=by
 intro f
 induction f with
 | zero=>intro x i a c h;rw [zaf] at h;cases h;decide
 | succ f ih =>
  intro x i a c h;rw [zaf] at h
  split at h
  ·cases h
  ·split at h
   ·next a2 c2 hm=>cases h;exact zg0 hm
   ·exact ih _ _ _ _ h
theorem zeJ {s:ByteArray} {i:Int} {a:Nat} {c:Int} (h:zap s i=.inr (a,c)):c≠0:=by
 unfold zap at h
 split at h
 ·cases h;decide
 ·split at h
  ·split at h
   ·cases hm:zaf s (s.size+1) 0#256 (i.toNat+2) with
    | inl p=>rw [hm] at h;cases h
    | inr q=>obtain ⟨a2,c2⟩:=q;rw [hm] at h;cases h;exact zd2 _ _ _ _ _ hm
   ·cases hm:zaf s (s.size+1) 0#256 (i.toNat+1) with
    | inl p=>rw [hm] at h;cases h
    | inr q=>obtain ⟨a2,c2⟩:=q;rw [hm] at h;cases h;exact zd2 _ _ _ _ _ hm
  ·cases h;decide
def clT (s:ByteArray) (b:Nat):Rd (BitVec 256×Nat)->Sum Tk (Nat×Int)
 | .inl p=>.inl ⟨3,0,b,p.2,⟨#[]⟩,wd p.1 0,wd p.1 1,wd p.1 2,wd p.1 3⟩
 | .inr q=>if q.2=6/\q.1=s.size then .inr (b,52) else .inr q
def zbE (sg:Nat->Sum Tk (Nat×Int)) (s:ByteArray) (b:Nat):Sum Tk (Nat×Int) :=
 if hdB (chr s b)=true then (if 32<spN nmB s b - b then .inr (b,2) else .inl ⟨1,0,b,spN nmB s b,s.extract b (spN nmB s b),0,0,0,0⟩)
 else if dgB (chr s b)=true then (match zbQ s b 999999 with
  | .inr e=>.inr (b,e)
  | .inl n=>.inl ⟨4,n,b,spN dgB s b,⟨#[]⟩,0,0,0,0⟩)
 else if chr s b=39∨chr s b=34 then zbX s b
 else if chr s b=91 then clT s b (zap s b)
 else if chr s b=37 then zdE s b
 else if chr s b=94 then zd8 s b
 else if chr s b=123/\chr s (b+1)=58 then ze5 s b
 else sg b
theorem one_of (sg:Nat->Sum Tk (Nat×Int)) (s:ByteArray) (b:Nat) (hs:s.size<=140737488355000) (hb:b<s.size)
  (HSg:∀w,Calls Tryz.prog 67 #[.string s,.int .i64 b] w (rB w (zcs (sg b)))) (w:World) :
  Calls Tryz.prog 36 #[.string s,.int .i64 b] w (rB w (zcs (zbE sg s b))):=by
 have HWr:Hid (∀i e w,Cl 58 #[.int .i64 i,.int .i64 e] w fun e' w'=>e'=.returned (.tuple #[tkG tk0,.int .i64 i,.int .i64 e])/\Below w.heap.size w w'):=fun i e w=>zbO i e w
 have HA:Hid (∀w,Cl 55 #[.string s,.int .i64 (b:Int)] w (rU w (.int .i64 (chr s b)))):=fun w=>za0 s b w
 have HA1:Hid (∀w,Cl 55 #[.string s,.int .i64 ((b:Int)+1)] w (rU w (.int .i64 (chr s (b+1))))):=fun w=>za0 s (b+1) w
 have HH:Hid (∀w,Cl 56 #[.int .i64 (chr s b)] w (rU w (.bool (hdB (chr s b))))):=fun w=>zfu _ w
 have HD:Hid (∀w,Cl 59 #[.int .i64 (chr s b)] w (rU w (.bool (dgB (chr s b))))):=fun w=>zes _ w
 have HX:Hid (TX (w.alloc (tkO tk0)) w.heap.size tk0):=TX.new w tk0;have HB:Hid (Below w.heap.size w (w.alloc (tkO tk0))):=zaa w _;have HS:Hid (∀w,Cl 67 #[.string s,.int .i64 b] w (rB w (zcs (sg b)))):=HSg;clear HSg
 cases hh:hdB (chr s b) with
 | true =>
  have HR:Hid (∀w,Cl 57 #[.string s,.int .i64 (b:Int)] w (rU w (.int .i64 (spN nmB s b)))):=fun w=>zi5 s b (by omega) (by omega) w
  have hge:=zbd nmB s (by decide) b;have hle:=zbD nmB s (by decide) b (by omega);have HU:Hid (zbE sg s b=if 32<spN nmB s b - b then .inr (b,2) else .inl ⟨1,0,b,spN nmB s b,s.extract b (spN nmB s b),0,0,0,0⟩):=by show zbE sg s b=_;unfold zbE;rw [iP hh]
  generalize spN nmB s b=n at *;obtain ⟨m,hm⟩:∃m,m=n - b:=⟨_,rfl⟩;have u1:IntKind.i64.wrap ((n:Int) - (b:Int))=(m:Int):=by rw [wI];omega
  have z0:(0:Int)<=(b:Int):=by omega
  have z1:(b:Int)<=(n:Int):=by omega
  have z2:(n:Int)<=(s.size:Int):=by omega
  rw [<-hm] at HU;clear hm;by_cases h32:32<m
  ·have HE:Hid (zbE sg s b=.inr (b,2)):=by show zbE sg s b=_;rw [HU.out,iP h32]
   have t2:decide (32<m)=true:=decide_eq_true h32;clear HU HS HD HA1;go_enter Tryz.func36,Tryz.ntmps36;go_wp2_with fail;refine (HA _).mono ?_;rintro e w2 ⟨rfl,rfl⟩;go_wp2_with fail;refine (HH _).mono ?_;rintro e w2 ⟨rfl,rfl⟩;rw [hh];clear hh;go_wp2_with fail;refine (HR _).mono ?_;rintro e w2 ⟨rfl,rfl⟩;clear HR HH HA;go_wp2_with fail;refine (HWr _ _ _).mono ?_;rintro e w3 ⟨rfl,b3⟩;have HX3:=hO (HX.below b3);have HB3:Hid (Below w.heap.size w w3):=HB.trans (b3.mono HB.size);clear b3;obtain ⟨c0,c1,c2,c3,c4,c5,c6,c7,c8⟩:=HX3.cells;obtain ⟨f0,f1',f2',f3,f4,f5,f6,f7,f8⟩:=HX3.fz;go_wp2_with fail;exact zai rfl rfl rfl rfl rfl (zar HX3 tk0) ⟨by rw [HE.out];rfl,zac HB3 (nL _) tk0⟩
  ·have HE:Hid (zbE sg s b=.inl ⟨1,0,b,n,s.extract b n,0,0,0,0⟩):=by show zbE sg s b=_;rw [HU.out,iN h32]
   have t2:decide (32<m)=false:=dF h32;clear HU HS HD HA1 HWr;go_enter Tryz.func36,Tryz.ntmps36;go_wp2_with fail;refine (HA _).mono ?_;rintro e w2 ⟨rfl,rfl⟩;go_wp2_with fail;refine (HH _).mono ?_;rintro e w2 ⟨rfl,rfl⟩;rw [hh];clear hh;go_wp2_with fail;refine (HR _).mono ?_;rintro e w2 ⟨rfl,rfl⟩;clear HR HH HA;go_wp2_with fail;exact zai (t:=⟨1,0,b,n,s.extract b n,0,0,0,0⟩) rfl rfl rfl rfl rfl (TX.new w ⟨1,0,b,n,s.extract b n,0,0,0,0⟩) ⟨by rw [HE.out];rfl,zaa w _⟩
 | false =>
  have nh:¬hdB (chr s b)=true:=by rw [hh];simp
  cases hd:dgB (chr s b) with
  | true =>
   have HU:Hid (zbE sg s b=match zbQ s b 999999 with
    | .inr e=>.inr (b,e)
    | .inl n=>.inl ⟨4,n,b,spN dgB s b,⟨#[]⟩,0,0,0,0⟩):=by show zbE sg s b=_;unfold zbE;rw [iN nh,iP hd]
   cases hq:zbQ s b 999999 with
   | inr e0 =>
    have HE:Hid (zbE sg s b=.inr (b,e0)):=by show zbE sg s b=_;rw [HU.out,hq]
    have hne:e0≠0:=zfv hq;have t9:(e0 != 0)=true:=by rw [bne,bF hne];rfl
    have HNu:=(show Hid (∀w,Calls Tryz.prog 60 #[.string s,.int .i64 b,.int .i64 b,.int .i64 999999] w (rU w (.tuple #[.int .i64 0,.int .i64 e0]))) from fun w=>by
     have h:=zbr s b b 999999 (by omega) (by omega) w;rw [hq] at h;exact h)
    clear hq hne HU HS HA1 nh;go_enter Tryz.func36,Tryz.ntmps36;go_wp2_with fail;refine (HA _).mono ?_;rintro e w2 ⟨rfl,rfl⟩;go_wp2_with fail;refine (HH _).mono ?_;rintro e w2 ⟨rfl,rfl⟩;rw [hh];go_wp2_with fail;refine (HD _).mono ?_;rintro e w2 ⟨rfl,rfl⟩;rw [hd];clear hh hd;go_wp2_with fail;refine (HNu _).mono ?_;rintro e w2 ⟨rfl,rfl⟩;clear HNu HH HA HD;go_wp2_with fail;refine (HWr _ _ _).mono ?_;rintro e w3 ⟨rfl,b3⟩;have HX3:=hO (HX.below b3);have HB3:Hid (Below w.heap.size w w3):=HB.trans (b3.mono HB.size);clear b3;obtain ⟨c0,c1,c2,c3,c4,c5,c6,c7,c8⟩:=HX3.cells;obtain ⟨f0,f1',f2',f3,f4,f5,f6,f7,f8⟩:=HX3.fz;go_wp2_with fail;exact zai rfl rfl rfl rfl rfl (zar HX3 tk0) ⟨by rw [HE.out];rfl,zac HB3 (nL _) tk0⟩
   | inl n0 =>
    have HE:Hid (zbE sg s b=.inl ⟨4,n0,b,spN dgB s b,⟨#[]⟩,0,0,0,0⟩):=by show zbE sg s b=_;rw [HU.out,hq]
    have HNu:=(show Hid (∀w,Calls Tryz.prog 60 #[.string s,.int .i64 b,.int .i64 b,.int .i64 999999] w (rU w (.tuple #[.int .i64 n0,.int .i64 0]))) from fun w=>by
     have h:=zbr s b b 999999 (by omega) (by omega) w;rw [hq] at h;exact h)
    have HDg:Hid (∀w,Cl 61 #[.string s,.int .i64 (b:Int)] w (rU w (.int .i64 (spN dgB s b)))):=fun w=>zch s b (by omega) (by omega) w
    clear hq HU HS HA1 nh HWr;go_enter Tryz.func36,Tryz.ntmps36;go_wp2_with fail;refine (HA _).mono ?_;rintro e w2 ⟨rfl,rfl⟩;go_wp2_with fail;refine (HH _).mono ?_;rintro e w2 ⟨rfl,rfl⟩;rw [hh];go_wp2_with fail;refine (HD _).mono ?_;rintro e w2 ⟨rfl,rfl⟩;rw [hd];clear hh hd;go_wp2_with fail;refine (HNu _).mono ?_;rintro e w2 ⟨rfl,rfl⟩;clear HNu HH HA HD;go_wp2_with fail;refine (HDg _).mono ?_;rintro e w2 ⟨rfl,rfl⟩;clear HDg;go_wp2_with fail;exact zai (t:=⟨4,n0,b,spN dgB s b,⟨#[]⟩,0,0,0,0⟩) rfl rfl rfl rfl rfl (TX.new w ⟨4,n0,b,spN dgB s b,⟨#[]⟩,0,0,0,0⟩) ⟨by rw [HE.out];rfl,zaa w _⟩
  | false =>
   have nd:¬dgB (chr s b)=true:=by rw [hd];simp
   by_cases hq:chr s b=39∨chr s b=34
   ·by_cases h39:chr s b=39
    ·have t1:(chr s b==39)=true:=by rw [h39];rfl
     have HU:Hid (zbE sg s b=zbX s b):=by show zbE sg s b=_;unfold zbE;rw [iN nh,iN nd,iP hq]
     have HP:Hid (∀w,Cl 62 #[.string s,.int .i64 b] w (rB w (zcs (zbX s b)))):=fun w=>zet s b hs hb w
     clear hq h39 nh nd
     cases hp:zbX s b with
     | inl t =>
      rw [hp] at HU HP;go_enter Tryz.func36,Tryz.ntmps36;go_wp2_with fail;refine (HA _).mono ?_;rintro e w2 ⟨rfl,rfl⟩;go_wp2_with fail;refine (HH _).mono ?_;rintro e w2 ⟨rfl,rfl⟩;rw [hh];go_wp2_with fail;refine (HD _).mono ?_;rintro e w2 ⟨rfl,rfl⟩;rw [hd];clear hh hd;go_wp2_with fail;refine (HP _).mono ?_;rintro e w3 ⟨rfl,b3⟩;have HX3:=hO (HX.below b3);have HB3:Hid (Below w.heap.size w w3):=HB.trans (b3.mono HB.size);clear b3;obtain ⟨c0,c1,c2,c3,c4,c5,c6,c7,c8⟩:=HX3.cells;obtain ⟨f0,f1',f2',f3,f4,f5,f6,f7,f8⟩:=HX3.fz;unfold zcs;go_wp2_with fail;exact zai rfl rfl rfl rfl rfl (zar HX3 t) ⟨by rw [HU.out];rfl,zac HB3 (nL _) t⟩
     | inr q =>
      rw [hp] at HU HP;go_enter Tryz.func36,Tryz.ntmps36;go_wp2_with fail;refine (HA _).mono ?_;rintro e w2 ⟨rfl,rfl⟩;go_wp2_with fail;refine (HH _).mono ?_;rintro e w2 ⟨rfl,rfl⟩;rw [hh];go_wp2_with fail;refine (HD _).mono ?_;rintro e w2 ⟨rfl,rfl⟩;rw [hd];clear hh hd;go_wp2_with fail;refine (HP _).mono ?_;rintro e w3 ⟨rfl,b3⟩;have HX3:=hO (HX.below b3);have HB3:Hid (Below w.heap.size w w3):=HB.trans (b3.mono HB.size);clear b3;obtain ⟨c0,c1,c2,c3,c4,c5,c6,c7,c8⟩:=HX3.cells;obtain ⟨f0,f1',f2',f3,f4,f5,f6,f7,f8⟩:=HX3.fz;unfold zcs;go_wp2_with fail;exact zai rfl rfl rfl rfl rfl (zar HX3 tk0) ⟨by rw [HU.out];rfl,zac HB3 (nL _) tk0⟩
    ·have t1:(chr s b==39)=false:=bF h39
     have t2:(chr s b==34)=true:=beq_iff_eq.2 (hq.resolve_left h39);have HU:Hid (zbE sg s b=zbX s b):=by show zbE sg s b=_;unfold zbE;rw [iN nh,iN nd,iP hq]
     have HP:Hid (∀w,Cl 62 #[.string s,.int .i64 b] w (rB w (zcs (zbX s b)))):=fun w=>zet s b hs hb w
     clear hq h39 nh nd
     cases hp:zbX s b with
     | inl t =>
      rw [hp] at HU HP;go_enter Tryz.func36,Tryz.ntmps36;go_wp2_with fail;refine (HA _).mono ?_;rintro e w2 ⟨rfl,rfl⟩;go_wp2_with fail;refine (HH _).mono ?_;rintro e w2 ⟨rfl,rfl⟩;rw [hh];go_wp2_with fail;refine (HD _).mono ?_;rintro e w2 ⟨rfl,rfl⟩;rw [hd];clear hh hd;go_wp2_with fail;refine (HP _).mono ?_;rintro e w3 ⟨rfl,b3⟩;have HX3:=hO (HX.below b3);have HB3:Hid (Below w.heap.size w w3):=HB.trans (b3.mono HB.size);clear b3;obtain ⟨c0,c1,c2,c3,c4,c5,c6,c7,c8⟩:=HX3.cells;obtain ⟨f0,f1',f2',f3,f4,f5,f6,f7,f8⟩:=HX3.fz;unfold zcs;go_wp2_with fail;exact zai rfl rfl rfl rfl rfl (zar HX3 t) ⟨by rw [HU.out];rfl,zac HB3 (nL _) t⟩
     | inr q =>
      rw [hp] at HU HP;go_enter Tryz.func36,Tryz.ntmps36;go_wp2_with fail;refine (HA _).mono ?_;rintro e w2 ⟨rfl,rfl⟩;go_wp2_with fail;refine (HH _).mono ?_;rintro e w2 ⟨rfl,rfl⟩;rw [hh];go_wp2_with fail;refine (HD _).mono ?_;rintro e w2 ⟨rfl,rfl⟩;rw [hd];clear hh hd;go_wp2_with fail;refine (HP _).mono ?_;rintro e w3 ⟨rfl,b3⟩;have HX3:=hO (HX.below b3);have HB3:Hid (Below w.heap.size w w3):=HB.trans (b3.mono HB.size);clear b3;obtain ⟨c0,c1,c2,c3,c4,c5,c6,c7,c8⟩:=HX3.cells;obtain ⟨f0,f1',f2',f3,f4,f5,f6,f7,f8⟩:=HX3.fz;unfold zcs;go_wp2_with fail;exact zai rfl rfl rfl rfl rfl (zar HX3 tk0) ⟨by rw [HU.out];rfl,zac HB3 (nL _) tk0⟩
   have t1:(chr s b==39)=false:=bF (by omega);have t2:(chr s b==34)=false:=bF (by omega);by_cases h91:chr s b=91
   ·have t3:(chr s b==91)=true:=by rw [h91];rfl
    have HU:Hid (zbE sg s b=clT s b (zap s b)):=by show zbE sg s b=_;unfold zbE;rw [iN nh,iN nd,iN hq,iP h91]
    have HP:Hid (∀w,Cl 63 #[.string s,.int .i64 b] w (rB w (rrV (zap s b)))):=fun w=>zj8 s b (by omega) w
    clear hq h91 nh nd HS
    cases hp:zap s b with
    | inl p =>
     obtain ⟨x,en⟩:=p;rw [hp] at HU HP;have HE:Hid (zbE sg s b=.inl ⟨3,0,b,en,⟨#[]⟩,wd x 0,wd x 1,wd x 2,wd x 3⟩):=HU.out;clear hp HU HWr;go_enter Tryz.func36,Tryz.ntmps36;go_wp2_with fail;refine (HA _).mono ?_;rintro e w2 ⟨rfl,rfl⟩;go_wp2_with fail;refine (HH _).mono ?_;rintro e w2 ⟨rfl,rfl⟩;rw [hh];go_wp2_with fail;refine (HD _).mono ?_;rintro e w2 ⟨rfl,rfl⟩;rw [hd];clear hh hd HH HD HA HA1;go_wp2_with fail;refine (HP _).mono ?_;rintro e w3 ⟨rfl,b3⟩;have HX3:=hO (HX.below b3);have HB3:Hid (Below w.heap.size w w3):=HB.trans (b3.mono HB.size);clear b3;unfold rrV;have hlt3:=HX3.lt;have hle3:w.heap.size≠w3.heap.size:=by omega
     obtain ⟨c0,c1,c2,c3,c4,c5,c6,c7,c8⟩:=HX3.cells;obtain ⟨f0,f1',f2',f3,f4,f5,f6,f7,f8⟩:=HX3.fz;go_wp2_with fail;exact zai (t:=⟨3,0,b,en,⟨#[]⟩,wd x 0,wd x 1,wd x 2,wd x 3⟩) (p:=0) (e:=0) rfl rfl rfl rfl rfl ((zar HX3.out ⟨3,0,b,en,⟨#[]⟩,wd x 0,wd x 1,wd x 2,wd x 3⟩).below (zaa _ _)) ⟨by rw [HE.out];rfl,(zac HB3 (nL _) ⟨3,0,b,en,⟨#[]⟩,wd x 0,wd x 1,wd x 2,wd x 3⟩).alloc (zac HB3 (nL _) ⟨3,0,b,en,⟨#[]⟩,wd x 0,wd x 1,wd x 2,wd x 3⟩).size _⟩
    | inr q =>
     obtain ⟨pl,ec⟩:=q;rw [hp] at HU HP;have hec:ec≠0:=zeJ hp;by_cases hq6:ec=6/\pl=s.size
     ·have HE:Hid (zbE sg s b=.inr (b,52)):=by show zbE sg s b=_;rw [HU.out];show (if ec=6/\pl=s.size then _ else _)=_;rw [iP hq6]
      have v1:(ec==6)=true:=by rw [hq6.1];rfl
      have v2:((pl:Int)==(s.size:Int))=true:=by rw [hq6.2];simp
      clear hp HU hq6;go_enter Tryz.func36,Tryz.ntmps36;go_wp2_with fail;refine (HA _).mono ?_;rintro e w2 ⟨rfl,rfl⟩;go_wp2_with fail;refine (HH _).mono ?_;rintro e w2 ⟨rfl,rfl⟩;rw [hh];go_wp2_with fail;refine (HD _).mono ?_;rintro e w2 ⟨rfl,rfl⟩;rw [hd];clear hh hd HH HD HA HA1;go_wp2_with fail;refine (HP _).mono ?_;rintro e w3 ⟨rfl,b3⟩;have HX3:=hO (HX.below b3);have HB3:Hid (Below w.heap.size w w3):=HB.trans (b3.mono HB.size);clear b3;unfold rrV;go_wp2_with fail;refine (HWr _ _ _).mono ?_;rintro e w4 ⟨rfl,b4⟩;have HX4:Hid (TX w4 w.heap.size tk0):=HX3.below ((zaa _ _).trans (b4.mono (zaa _ _).size));have HB4:Hid (Below w.heap.size w w4):=HB3.trans (((zaa _ _).trans (b4.mono (zaa _ _).size)).mono HB3.size);clear b4;obtain ⟨c0,c1,c2,c3,c4,c5,c6,c7,c8⟩:=HX4.cells;obtain ⟨f0,f1',f2',f3,f4,f5,f6,f7,f8⟩:=HX4.fz;go_wp2_with fail;exact zai rfl rfl rfl rfl rfl (zar HX4 tk0) ⟨by rw [HE.out];rfl,zac HB4 (nL _) tk0⟩
     ·have HE:Hid (zbE sg s b=.inr (pl,ec)):=by show zbE sg s b=_;rw [HU.out];show (if ec=6/\pl=s.size then _ else _)=_;rw [iN hq6]
      have v3:(ec != 0)=true:=by rw [bne,bF hec];rfl
      by_cases h6:ec=6
      ·have v1:(ec==6)=true:=by rw [h6];rfl
       have v2:((pl:Int)==(s.size:Int))=false:=by rw [beq_eq_false_iff_ne];intro q;exact hq6 ⟨h6,by omega⟩
       clear hp HU hq6 h6 hec;go_enter Tryz.func36,Tryz.ntmps36;go_wp2_with fail;refine (HA _).mono ?_;rintro e w2 ⟨rfl,rfl⟩;go_wp2_with fail;refine (HH _).mono ?_;rintro e w2 ⟨rfl,rfl⟩;rw [hh];go_wp2_with fail;refine (HD _).mono ?_;rintro e w2 ⟨rfl,rfl⟩;rw [hd];clear hh hd HH HD HA HA1;go_wp2_with fail;refine (HP _).mono ?_;rintro e w3 ⟨rfl,b3⟩;have HX3:=hO (HX.below b3);have HB3:Hid (Below w.heap.size w w3):=HB.trans (b3.mono HB.size);clear b3;unfold rrV;go_wp2_with fail;refine (HWr _ _ _).mono ?_;rintro e w4 ⟨rfl,b4⟩;have HX4:Hid (TX w4 w.heap.size tk0):=HX3.below ((zaa _ _).trans (b4.mono (zaa _ _).size));have HB4:Hid (Below w.heap.size w w4):=HB3.trans (((zaa _ _).trans (b4.mono (zaa _ _).size)).mono HB3.size);clear b4;obtain ⟨c0,c1,c2,c3,c4,c5,c6,c7,c8⟩:=HX4.cells;obtain ⟨f0,f1',f2',f3,f4,f5,f6,f7,f8⟩:=HX4.fz;go_wp2_with fail;exact zai rfl rfl rfl rfl rfl (zar HX4 tk0) ⟨by rw [HE.out];rfl,zac HB4 (nL _) tk0⟩
      ·have v1:(ec==6)=false:=bF h6
       clear hp HU hq6 h6 hec;go_enter Tryz.func36,Tryz.ntmps36;go_wp2_with fail;refine (HA _).mono ?_;rintro e w2 ⟨rfl,rfl⟩;go_wp2_with fail;refine (HH _).mono ?_;rintro e w2 ⟨rfl,rfl⟩;rw [hh];go_wp2_with fail;refine (HD _).mono ?_;rintro e w2 ⟨rfl,rfl⟩;rw [hd];clear hh hd HH HD HA HA1;go_wp2_with fail;refine (HP _).mono ?_;rintro e w3 ⟨rfl,b3⟩;have HX3:=hO (HX.below b3);have HB3:Hid (Below w.heap.size w w3):=HB.trans (b3.mono HB.size);clear b3;unfold rrV;go_wp2_with fail;refine (HWr _ _ _).mono ?_;rintro e w4 ⟨rfl,b4⟩;have HX4:Hid (TX w4 w.heap.size tk0):=HX3.below ((zaa _ _).trans (b4.mono (zaa _ _).size));have HB4:Hid (Below w.heap.size w w4):=HB3.trans (((zaa _ _).trans (b4.mono (zaa _ _).size)).mono HB3.size);clear b4;obtain ⟨c0,c1,c2,c3,c4,c5,c6,c7,c8⟩:=HX4.cells;obtain ⟨f0,f1',f2',f3,f4,f5,f6,f7,f8⟩:=HX4.fz;go_wp2_with fail;exact zai rfl rfl rfl rfl rfl (zar HX4 tk0) ⟨by rw [HE.out];rfl,zac HB4 (nL _) tk0⟩
   have t3:(chr s b==91)=false:=bF h91;by_cases h37:chr s b=37
   ·have t4:(chr s b==37)=true:=by rw [h37];rfl
    have HU:Hid (zbE sg s b=zdE s b):=by show zbE sg s b=_;unfold zbE;rw [iN nh,iN nd,iN hq,iN h91,iP h37]
    have HP:Hid (∀w,Cl 64 #[.string s,.int .i64 b] w (rB w (zcs (zdE s b)))):=fun w=>zgU s b hs hb w
    clear hq h91 h37 nh nd
    cases hp:zdE s b with
    | inl t =>
     rw [hp] at HU HP;go_enter Tryz.func36,Tryz.ntmps36;go_wp2_with fail;refine (HA _).mono ?_;rintro e w2 ⟨rfl,rfl⟩;go_wp2_with fail;refine (HH _).mono ?_;rintro e w2 ⟨rfl,rfl⟩;rw [hh];go_wp2_with fail;refine (HD _).mono ?_;rintro e w2 ⟨rfl,rfl⟩;rw [hd];clear hh hd;go_wp2_with fail;refine (HP _).mono ?_;rintro e w3 ⟨rfl,b3⟩;have HX3:=hO (HX.below b3);have HB3:Hid (Below w.heap.size w w3):=HB.trans (b3.mono HB.size);clear b3;obtain ⟨c0,c1,c2,c3,c4,c5,c6,c7,c8⟩:=HX3.cells;obtain ⟨f0,f1',f2',f3,f4,f5,f6,f7,f8⟩:=HX3.fz;unfold zcs;go_wp2_with fail;exact zai rfl rfl rfl rfl rfl (zar HX3 t) ⟨by rw [HU.out];rfl,zac HB3 (nL _) t⟩
    | inr q =>
     rw [hp] at HU HP;go_enter Tryz.func36,Tryz.ntmps36;go_wp2_with fail;refine (HA _).mono ?_;rintro e w2 ⟨rfl,rfl⟩;go_wp2_with fail;refine (HH _).mono ?_;rintro e w2 ⟨rfl,rfl⟩;rw [hh];go_wp2_with fail;refine (HD _).mono ?_;rintro e w2 ⟨rfl,rfl⟩;rw [hd];clear hh hd;go_wp2_with fail;refine (HP _).mono ?_;rintro e w3 ⟨rfl,b3⟩;have HX3:=hO (HX.below b3);have HB3:Hid (Below w.heap.size w w3):=HB.trans (b3.mono HB.size);clear b3;obtain ⟨c0,c1,c2,c3,c4,c5,c6,c7,c8⟩:=HX3.cells;obtain ⟨f0,f1',f2',f3,f4,f5,f6,f7,f8⟩:=HX3.fz;unfold zcs;go_wp2_with fail;exact zai rfl rfl rfl rfl rfl (zar HX3 tk0) ⟨by rw [HU.out];rfl,zac HB3 (nL _) tk0⟩
   have t4:(chr s b==37)=false:=bF h37;by_cases h94:chr s b=94
   ·have t5:(chr s b==94)=true:=by rw [h94];rfl
    have HU:Hid (zbE sg s b=zd8 s b):=by show zbE sg s b=_;unfold zbE;rw [iN nh,iN nd,iN hq,iN h91,iN h37,iP h94]
    have HP:Hid (∀w,Cl 65 #[.string s,.int .i64 b] w (rB w (zcs (zd8 s b)))):=fun w=>zjZ s b (by omega) hb w
    clear hq h91 h37 h94 nh nd
    cases hp:zd8 s b with
    | inl t =>
     rw [hp] at HU HP;go_enter Tryz.func36,Tryz.ntmps36;go_wp2_with fail;refine (HA _).mono ?_;rintro e w2 ⟨rfl,rfl⟩;go_wp2_with fail;refine (HH _).mono ?_;rintro e w2 ⟨rfl,rfl⟩;rw [hh];go_wp2_with fail;refine (HD _).mono ?_;rintro e w2 ⟨rfl,rfl⟩;rw [hd];clear hh hd;go_wp2_with fail;refine (HP _).mono ?_;rintro e w3 ⟨rfl,b3⟩;have HX3:=hO (HX.below b3);have HB3:Hid (Below w.heap.size w w3):=HB.trans (b3.mono HB.size);clear b3;obtain ⟨c0,c1,c2,c3,c4,c5,c6,c7,c8⟩:=HX3.cells;obtain ⟨f0,f1',f2',f3,f4,f5,f6,f7,f8⟩:=HX3.fz;unfold zcs;go_wp2_with fail;exact zai rfl rfl rfl rfl rfl (zar HX3 t) ⟨by rw [HU.out];rfl,zac HB3 (nL _) t⟩
    | inr q =>
     rw [hp] at HU HP;go_enter Tryz.func36,Tryz.ntmps36;go_wp2_with fail;refine (HA _).mono ?_;rintro e w2 ⟨rfl,rfl⟩;go_wp2_with fail;refine (HH _).mono ?_;rintro e w2 ⟨rfl,rfl⟩;rw [hh];go_wp2_with fail;refine (HD _).mono ?_;rintro e w2 ⟨rfl,rfl⟩;rw [hd];clear hh hd;go_wp2_with fail;refine (HP _).mono ?_;rintro e w3 ⟨rfl,b3⟩;have HX3:=hO (HX.below b3);have HB3:Hid (Below w.heap.size w w3):=HB.trans (b3.mono HB.size);clear b3;obtain ⟨c0,c1,c2,c3,c4,c5,c6,c7,c8⟩:=HX3.cells;obtain ⟨f0,f1',f2',f3,f4,f5,f6,f7,f8⟩:=HX3.fz;unfold zcs;go_wp2_with fail;exact zai rfl rfl rfl rfl rfl (zar HX3 tk0) ⟨by rw [HU.out];rfl,zac HB3 (nL _) tk0⟩
   have t5:(chr s b==94)=false:=bF h94;by_cases hg:chr s b=123/\chr s (b+1)=58
   ·have t6:(chr s b==123)=true:=by rw [hg.1];rfl
    have t7:(chr s (b+1)==58)=true:=by rw [hg.2];rfl
    have hb1:b+1<s.size:=zaB (by omega);have HU:Hid (zbE sg s b=ze5 s b):=by show zbE sg s b=_;unfold zbE;rw [iN nh,iN nd,iN hq,iN h91,iN h37,iN h94,iP hg]
    have HP:Hid (∀w,Cl 66 #[.string s,.int .i64 b] w (rB w (zcs (ze5 s b)))):=fun w=>zj0 s b hs hb1 w
    clear hq h91 h37 h94 hg nh nd
    cases hp:ze5 s b with
    | inl t =>
     rw [hp] at HU HP;go_enter Tryz.func36,Tryz.ntmps36;go_wp2_with fail;refine (HA _).mono ?_;rintro e w2 ⟨rfl,rfl⟩;go_wp2_with fail;refine (HH _).mono ?_;rintro e w2 ⟨rfl,rfl⟩;rw [hh];go_wp2_with fail;refine (HD _).mono ?_;rintro e w2 ⟨rfl,rfl⟩;rw [hd];clear hh hd;go_wp2_with fail;refine (HA1 _).mono ?_;rintro e w2 ⟨rfl,rfl⟩;go_wp2_with fail;refine (HP _).mono ?_;rintro e w3 ⟨rfl,b3⟩;have HX3:=hO (HX.below b3);have HB3:Hid (Below w.heap.size w w3):=HB.trans (b3.mono HB.size);clear b3;obtain ⟨c0,c1,c2,c3,c4,c5,c6,c7,c8⟩:=HX3.cells;obtain ⟨f0,f1',f2',f3,f4,f5,f6,f7,f8⟩:=HX3.fz;unfold zcs;go_wp2_with fail;exact zai rfl rfl rfl rfl rfl (zar HX3 t) ⟨by rw [HU.out];rfl,zac HB3 (nL _) t⟩
    | inr q =>
     rw [hp] at HU HP;go_enter Tryz.func36,Tryz.ntmps36;go_wp2_with fail;refine (HA _).mono ?_;rintro e w2 ⟨rfl,rfl⟩;go_wp2_with fail;refine (HH _).mono ?_;rintro e w2 ⟨rfl,rfl⟩;rw [hh];go_wp2_with fail;refine (HD _).mono ?_;rintro e w2 ⟨rfl,rfl⟩;rw [hd];clear hh hd;go_wp2_with fail;refine (HA1 _).mono ?_;rintro e w2 ⟨rfl,rfl⟩;go_wp2_with fail;refine (HP _).mono ?_;rintro e w3 ⟨rfl,b3⟩;have HX3:=hO (HX.below b3);have HB3:Hid (Below w.heap.size w w3):=HB.trans (b3.mono HB.size);clear b3;obtain ⟨c0,c1,c2,c3,c4,c5,c6,c7,c8⟩:=HX3.cells;obtain ⟨f0,f1',f2',f3,f4,f5,f6,f7,f8⟩:=HX3.fz;unfold zcs;go_wp2_with fail;exact zai rfl rfl rfl rfl rfl (zar HX3 tk0) ⟨by rw [HU.out];rfl,zac HB3 (nL _) tk0⟩
   by_cases h123:chr s b=123
   ·have t6:(chr s b==123)=true:=by rw [h123];rfl
    have t7:(chr s (b+1)==58)=false:=bF (fun q=>hg ⟨h123,q⟩);have HU:Hid (zbE sg s b=sg b):=by show zbE sg s b=_;unfold zbE;rw [iN nh,iN nd,iN hq,iN h91,iN h37,iN h94,iN hg]
    have HP:Hid (∀w,Cl 67 #[.string s,.int .i64 b] w (rB w (zcs (sg b)))):=fun w=>HS w
    clear hq h91 h37 h94 hg h123 nh nd
    cases hp:sg b with
    | inl t =>
     rw [hp] at HU HP;go_enter Tryz.func36,Tryz.ntmps36;go_wp2_with fail;refine (HA _).mono ?_;rintro e w2 ⟨rfl,rfl⟩;go_wp2_with fail;refine (HH _).mono ?_;rintro e w2 ⟨rfl,rfl⟩;rw [hh];go_wp2_with fail;refine (HD _).mono ?_;rintro e w2 ⟨rfl,rfl⟩;rw [hd];clear hh hd;go_wp2_with fail;refine (HA1 _).mono ?_;rintro e w2 ⟨rfl,rfl⟩;go_wp2_with fail;refine (HP _).mono ?_;rintro e w3 ⟨rfl,b3⟩;have HX3:=hO (HX.below b3);have HB3:Hid (Below w.heap.size w w3):=HB.trans (b3.mono HB.size);clear b3;obtain ⟨c0,c1,c2,c3,c4,c5,c6,c7,c8⟩:=HX3.cells;obtain ⟨f0,f1',f2',f3,f4,f5,f6,f7,f8⟩:=HX3.fz;unfold zcs;go_wp2_with fail;exact zai rfl rfl rfl rfl rfl (zar HX3 t) ⟨by rw [HU.out];rfl,zac HB3 (nL _) t⟩
    | inr q =>
     rw [hp] at HU HP;go_enter Tryz.func36,Tryz.ntmps36;go_wp2_with fail;refine (HA _).mono ?_;rintro e w2 ⟨rfl,rfl⟩;go_wp2_with fail;refine (HH _).mono ?_;rintro e w2 ⟨rfl,rfl⟩;rw [hh];go_wp2_with fail;refine (HD _).mono ?_;rintro e w2 ⟨rfl,rfl⟩;rw [hd];clear hh hd;go_wp2_with fail;refine (HA1 _).mono ?_;rintro e w2 ⟨rfl,rfl⟩;go_wp2_with fail;refine (HP _).mono ?_;rintro e w3 ⟨rfl,b3⟩;have HX3:=hO (HX.below b3);have HB3:Hid (Below w.heap.size w w3):=HB.trans (b3.mono HB.size);clear b3;obtain ⟨c0,c1,c2,c3,c4,c5,c6,c7,c8⟩:=HX3.cells;obtain ⟨f0,f1',f2',f3,f4,f5,f6,f7,f8⟩:=HX3.fz;unfold zcs;go_wp2_with fail;exact zai rfl rfl rfl rfl rfl (zar HX3 tk0) ⟨by rw [HU.out];rfl,zac HB3 (nL _) tk0⟩
   ·have t6:(chr s b==123)=false:=bF h123
    have HU:Hid (zbE sg s b=sg b):=by show zbE sg s b=_;unfold zbE;rw [iN nh,iN nd,iN hq,iN h91,iN h37,iN h94,iN hg]
    have HP:Hid (∀w,Cl 67 #[.string s,.int .i64 b] w (rB w (zcs (sg b)))):=fun w=>HS w
    clear hq h91 h37 h94 hg h123 nh nd
    cases hp:sg b with
    | inl t =>
     rw [hp] at HU HP;go_enter Tryz.func36,Tryz.ntmps36;go_wp2_with fail;refine (HA _).mono ?_;rintro e w2 ⟨rfl,rfl⟩;go_wp2_with fail;refine (HH _).mono ?_;rintro e w2 ⟨rfl,rfl⟩;rw [hh];go_wp2_with fail;refine (HD _).mono ?_;rintro e w2 ⟨rfl,rfl⟩;rw [hd];clear hh hd;go_wp2_with fail;refine (HP _).mono ?_;rintro e w3 ⟨rfl,b3⟩;have HX3:=hO (HX.below b3);have HB3:Hid (Below w.heap.size w w3):=HB.trans (b3.mono HB.size);clear b3;obtain ⟨c0,c1,c2,c3,c4,c5,c6,c7,c8⟩:=HX3.cells;obtain ⟨f0,f1',f2',f3,f4,f5,f6,f7,f8⟩:=HX3.fz;unfold zcs;go_wp2_with fail;exact zai rfl rfl rfl rfl rfl (zar HX3 t) ⟨by rw [HU.out];rfl,zac HB3 (nL _) t⟩
    | inr q =>
     rw [hp] at HU HP;go_enter Tryz.func36,Tryz.ntmps36;go_wp2_with fail;refine (HA _).mono ?_;rintro e w2 ⟨rfl,rfl⟩;go_wp2_with fail;refine (HH _).mono ?_;rintro e w2 ⟨rfl,rfl⟩;rw [hh];go_wp2_with fail;refine (HD _).mono ?_;rintro e w2 ⟨rfl,rfl⟩;rw [hd];clear hh hd;go_wp2_with fail;refine (HP _).mono ?_;rintro e w3 ⟨rfl,b3⟩;have HX3:=hO (HX.below b3);have HB3:Hid (Below w.heap.size w w3):=HB.trans (b3.mono HB.size);clear b3;obtain ⟨c0,c1,c2,c3,c4,c5,c6,c7,c8⟩:=HX3.cells;obtain ⟨f0,f1',f2',f3,f4,f5,f6,f7,f8⟩:=HX3.fz;unfold zcs;go_wp2_with fail;exact zai rfl rfl rfl rfl rfl (zar HX3 tk0) ⟨by rw [HU.out];rfl,zac HB3 (nL _) tk0⟩
abbrev svO (x:BitVec 256):Obj:=.cells #[.int .u64 (wd x 0),.int .u64 (wd x 1),.int .u64 (wd x 2),.int .u64 (wd x 3)] 49
theorem zg1 (s:ByteArray) (b:Nat) (hs:s.size<=140737488355000) (w:World):Calls Tryz.prog 106 #[.string s,.int .i64 b] w (rB w (za1 (clT s b (zap s b)))):=by
 have HF:Hid (∀i e w,Cl 128 #[.int .i64 i,.int .i64 e] w fun e' w'=>e'=.returned (zaQ tk0 i e)/\Below w.heap.size w w'):=fun i e w=>zaK i e w
 have HC:Hid (∀w,Cl 133 #[.string s,.int .i64 b] w (rB w (mbV (zap s b)))):=fun w=>zl1 s b (by omega) w
 have HX:Hid (BX w ((w.alloc (tkO tk0)).alloc (fxO 0 0)) tk0 0 0):=BX.new w
 cases hr:zap s b with
 | inr p =>
  obtain ⟨a,c⟩:=p;have hne:=zeJ hr;rw [hr] at HC;clear hr;unfold mbV at HC;by_cases h6:c=6/\a=s.size
  ·obtain ⟨rfl,rfl⟩:=h6
   have HE:Hid (clT s b (.inr (s.size,6))=.inr (b,52)):=by show clT s b (.inr (s.size,6))=_;rw [clT,iP ⟨rfl,rfl⟩]
   go_enter Tryz.func106,Tryz.ntmps106;go_wp2_with fail;refine (HC _).mono ?_;rintro e w2 ⟨rfl,b2⟩;have HX2:Hid (BX w ((w2.alloc (svO 0#256)).alloc (fxO s.size 6)) tk0 0 0):=((HX.below b2).below (zaa _ _)).below (zaa _ _);clear b2 HX HC;go_wp2_with fail;refine (HF _ _ _).mono ?_;rintro e w3 ⟨rfl,b3⟩;have HX3:=hO (HX2.below b3);clear b3 HX2 HF;obtain ⟨f0,f1',f2',f3,f4,f5,f6,f7,f8,g0,g1⟩:=HX3.fz;obtain ⟨c0,c1,c2,c3,c4,c5,c6,c7,c8,d0,d1⟩:=HX3.cells;unfold zaQ;go_wp2_with fail;have HP:=HX3.put tk0 b 52;exact zao rfl rfl rfl rfl HP ⟨by rw [HE.out];rfl,HP.b⟩
  ·have HE:Hid (clT s b (.inr (a,c))=.inr (a,c)):=by show clT s b (.inr (a,c))=_;rw [clT,iN h6]
   have t1:(c != 0)=true:=by rw [bne,bF hne];rfl
   by_cases hc6:c=6
   ·have ha:¬a=s.size:=fun q=>h6 ⟨hc6,q⟩
    have t2:((a:Int)==(s.size:Int))=false:=by rw [beq_eq_false_iff_ne];omega
    subst hc6;clear h6 hne ha t1;go_enter Tryz.func106,Tryz.ntmps106;go_wp2_with fail;refine (HC _).mono ?_;rintro e w2 ⟨rfl,b2⟩;have HX2:Hid (BX w ((w2.alloc (svO 0#256)).alloc (fxO a 6)) tk0 0 0):=((HX.below b2).below (zaa _ _)).below (zaa _ _);clear b2 HX HC;go_wp2_with fail;refine (HF _ _ _).mono ?_;rintro e w3 ⟨rfl,b3⟩;have HX3:=hO (HX2.below b3);clear b3 HX2 HF;obtain ⟨f0,f1',f2',f3,f4,f5,f6,f7,f8,g0,g1⟩:=HX3.fz;obtain ⟨c0,c1,c2,c3,c4,c5,c6,c7,c8,d0,d1⟩:=HX3.cells;unfold zaQ;go_wp2_with fail;have HP:=HX3.put tk0 a 6;exact zao rfl rfl rfl rfl HP ⟨by rw [HE.out];rfl,HP.b⟩
   ·have t2:(c==6)=false:=bF hc6
    clear h6 hne hc6;go_enter Tryz.func106,Tryz.ntmps106;go_wp2_with fail;refine (HC _).mono ?_;rintro e w2 ⟨rfl,b2⟩;have HX2:Hid (BX w ((w2.alloc (svO 0#256)).alloc (fxO a c)) tk0 0 0):=((HX.below b2).below (zaa _ _)).below (zaa _ _);clear b2 HX HC;go_wp2_with fail;refine (HF _ _ _).mono ?_;rintro e w3 ⟨rfl,b3⟩;have HX3:=hO (HX2.below b3);clear b3 HX2 HF;obtain ⟨f0,f1',f2',f3,f4,f5,f6,f7,f8,g0,g1⟩:=HX3.fz;obtain ⟨c0,c1,c2,c3,c4,c5,c6,c7,c8,d0,d1⟩:=HX3.cells;unfold zaQ;go_wp2_with fail;have HP:=HX3.put tk0 a c;exact zao rfl rfl rfl rfl HP ⟨by rw [HE.out];rfl,HP.b⟩
 | inl p =>
  obtain ⟨x,n⟩:=p;rw [hr] at HC;clear hr HF;unfold mbV at HC;have HE:Hid (clT s b (.inl (x,n))=.inl ⟨3,0,b,n,⟨#[]⟩,wd x 0,wd x 1,wd x 2,wd x 3⟩):=rfl;go_enter Tryz.func106,Tryz.ntmps106;go_wp2_with fail;refine (HC _).mono ?_;rintro e w2 ⟨rfl,b2⟩;have HX2:=hO (HX.below b2);clear b2 HX HC;obtain ⟨f0,f1',f2',f3,f4,f5,f6,f7,f8,g0,g1⟩:=HX2.fz;obtain ⟨c0,c1,c2,c3,c4,c5,c6,c7,c8,d0,d1⟩:=HX2.cells;have hsz2:=HX2.size;have hl1:w.heap.size<w2.heap.size:=by omega
  have hne1:w.heap.size≠w2.heap.size:=by omega
  have hne2:w.heap.size+1≠w2.heap.size:=by omega
  go_wp2_with fail;have HP:=((HX2.put ⟨3,0,b,n,⟨#[]⟩,wd x 0,wd x 1,wd x 2,wd x 3⟩ 0 0).below (zaa _ (svO x))).below (zaa _ (fxO 0 0));exact zao rfl rfl rfl rfl HP ⟨by rw [HE.out];rfl,HP.b⟩
end Go.Proofs.YtkihfkcmcdiajaaGreatDoor
