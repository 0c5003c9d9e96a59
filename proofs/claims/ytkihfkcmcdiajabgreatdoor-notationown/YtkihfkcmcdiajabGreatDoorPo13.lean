import Derived.Test.YtkihfkcmcdiajabGreatDoorPo12
set_option maxRecDepth 100000
set_option maxHeartbeats 8000000
namespace Go.Proofs.YtkihfkcmcdiajabGreatDoor
open Go.RowKit
theorem zgk (s:ByteArray) (i:Nat) (hi:i<=s.size) (hs:s.size<=140737488355328) (w:World) (hc:(chr s i==37)=true) :
  Cl 140 #[.string s,.int .i64 i] w (rB w (mbV (zab s i))):=by
 have HF:Hid (zab s i=zaW s i):=(by show zab s i=_;unfold zab;rw [iP (beq_iff_eq.1 hc)]);obtain ⟨q1,q2,q3⟩:=zcT w;have HH:=hO q1;have HG:=hO q2;have HR:=hO q3;clear q1 q2 q3;go_enter Tryz.func140,Tryz.ntmps140;go_wp2_with fail;refine (zan s i 37 (by omega) _).mono ?_;rintro e w1 ⟨rfl,rfl⟩;rw [hc];clear hc;go_wp2_with fail;refine (zfO s i hi hs _).mono ?_;rintro e w1 ⟨rfl,hb1⟩;have hl:w.heap.size+1<w1.heap.size:=by have h:=hb1.size;simp at h;omega
 have HR1:=hO (HR.trans (hb1.mono (by simp;omega)));obtain ⟨_,g0,g1,k0,k1⟩:=HG.below hb1 (by simp);obtain ⟨_,c0,c1,c2,c3,f0,f1,f2,f3⟩:=HH.below hb1 (by simp;omega);clear hb1 HH HG HR
 cases hq:zaW s i with
 | inl p =>
  obtain ⟨y,n⟩:=p;rw [hq] at HF;dsimp only [mbV];clear hq;go_wp2
  rw [HF.out];refine bodyPost_ret (v:=mbV (.inl (y,n))) (by simp [results,Tryz.results140,go_sem,mbV,zal, *]) rfl ⟨rfl,?_⟩;exact zaM HR1 (nL _) (by omega)
 | inr pq =>
  obtain ⟨a,c⟩:=pq;rw [hq] at HF;dsimp only [mbV];clear hq;go_wp2
  rw [HF.out];refine bodyPost_ret (v:=mbV (.inr (a,c))) (by simp [results,Tryz.results140,go_sem,mbV,zal, *]) rfl ⟨rfl,?_⟩;exact zaM HR1 (nL _) (by omega)
theorem zg0 (s:ByteArray) (i:Nat) (_hi:i<=s.size) (hs:s.size<=140737488355328) (w:World) (hc:(chr s i==37)=false) (h1:zak s i=none) :
  Cl 140 #[.string s,.int .i64 i] w (rB w (mbV (zab s i))):=by
 have hn37:¬chr s i=37:=beq_eq_false_iff_ne.1 hc;have HF:Hid (zab s i=.inr (i,6)):=(by show zab s i=_;unfold zab;rw [iN hn37,h1]);clear hn37;obtain ⟨q1,q2,q3⟩:=zcT w;have HH:=hO q1;have HG:=hO q2;have HR:=hO q3;clear q1 q2 q3;go_enter Tryz.func140,Tryz.ntmps140;go_wp2_with fail;refine (zan s i 37 (by omega) _).mono ?_;rintro e w1 ⟨rfl,rfl⟩;rw [hc];clear hc;go_wp2_with fail;refine (za6 s i hs _).mono ?_;rintro e w1 ⟨rfl,rfl⟩;rw [h1];dsimp only [itV];clear h1;go_wp2
 rw [HF.out];refine bodyPost_ret (v:=mbV (.inr (i,6))) (by simp [results,Tryz.results140,go_sem,mbV,zal, *]) rfl ⟨rfl,?_⟩;exact ((bR _ _).alloc (nL _) _).alloc (by simp) _
theorem ziv (s:ByteArray) (i:Nat) (_hi:i<=s.size) (hs:s.size<=140737488355328) (w:World) (hc:(chr s i==37)=false) (lo n:Nat) (h1:zak s i=some (lo,n)) (h2:(chr s n==45)=false) :
  Cl 140 #[.string s,.int .i64 i] w (rB w (mbV (zab s i))):=by
 have hn37:¬chr s i=37:=beq_eq_false_iff_ne.1 hc;have HF:Hid (zab s i=.inl (spn lo lo,n)):=(by show zab s i=_;unfold zab;rw [iN hn37,h1];exact iN (beq_eq_false_iff_ne.1 h2));obtain ⟨b1,b2,b3⟩:=zba h1;clear hn37;obtain ⟨q1,q2,q3⟩:=zcT w;have HH:=hO q1;have HG:=hO q2;have HR:=hO q3;clear q1 q2 q3;go_enter Tryz.func140,Tryz.ntmps140;go_wp2_with fail;refine (zan s i 37 (by omega) _).mono ?_;rintro e w1 ⟨rfl,rfl⟩;rw [hc];clear hc;go_wp2_with fail;refine (za6 s i hs _).mono ?_;rintro e w1 ⟨rfl,rfl⟩;rw [h1];dsimp only [itV];clear h1;go_wp2_with fail;refine (zan s n 45 (by omega) _).mono ?_;rintro e w1 ⟨rfl,rfl⟩;rw [h2];clear h2;go_wp2_with fail;refine (zaE lo lo _ (by omega) (by omega) (by omega)).mono ?_;rintro e w1 ⟨rfl,hb1⟩;have hl:w.heap.size+1<w1.heap.size:=by have h:=hb1.size;simp at h;omega
 have HR1:=hO (HR.trans (hb1.mono (by simp;omega)));obtain ⟨_,g0,g1,k0,k1⟩:=HG.below hb1 (by simp);obtain ⟨_,c0,c1,c2,c3,f0,f1,f2,f3⟩:=HH.below hb1 (by simp;omega);clear hb1 HH HG HR;generalize spn lo lo=y at *;go_wp2
 rw [HF.out];refine bodyPost_ret (v:=mbV (.inl (y,n))) (by simp [results,Tryz.results140,go_sem,mbV,zal, *]) rfl ⟨rfl,?_⟩;exact zaM HR1 (nL _) (by omega)
theorem zg1 (s:ByteArray) (i:Nat) (_hi:i<=s.size) (hs:s.size<=140737488355328) (w:World) (hc:(chr s i==37)=false) (lo n:Nat) (h1:zak s i=some (lo,n)) (h2:(chr s n==45)=true) (h3:zak s (n+1)=none) :
  Cl 140 #[.string s,.int .i64 i] w (rB w (mbV (zab s i))):=by
 have hn37:¬chr s i=37:=beq_eq_false_iff_ne.1 hc;have HF:Hid (zab s i=.inr ((n+1),6)):=(by show zab s i=_;unfold zab;rw [iN hn37,h1];exact (iP (beq_iff_eq.1 h2)).trans (by rw [h3]));obtain ⟨b1,b2,b3⟩:=zba h1;clear hn37;obtain ⟨q1,q2,q3⟩:=zcT w;have HH:=hO q1;have HG:=hO q2;have HR:=hO q3;clear q1 q2 q3;go_enter Tryz.func140,Tryz.ntmps140;go_wp2_with fail;refine (zan s i 37 (by omega) _).mono ?_;rintro e w1 ⟨rfl,rfl⟩;rw [hc];clear hc;go_wp2_with fail;refine (za6 s i hs _).mono ?_;rintro e w1 ⟨rfl,rfl⟩;rw [h1];dsimp only [itV];clear h1;go_wp2_with fail;refine (zan s n 45 (by omega) _).mono ?_;rintro e w1 ⟨rfl,rfl⟩;rw [h2];clear h2;go_wp2_with fail;rw [show (n:Int)+1=((n+1:Nat):Int) from by omega];refine (za6 s (n+1) hs _).mono ?_;rintro e w1 ⟨rfl,rfl⟩;rw [h3];dsimp only [itV];clear h3;go_wp2
 rw [HF.out];refine bodyPost_ret (v:=mbV (.inr ((n+1),6))) (by simp [results,Tryz.results140,go_sem,mbV,zal, *]) rfl ⟨rfl,?_⟩;exact ((bR _ _).alloc (nL _) _).alloc (by simp) _
theorem zfP (s:ByteArray) (i:Nat) (_hi:i<=s.size) (hs:s.size<=140737488355328) (w:World) (hc:(chr s i==37)=false) (lo n hi_ e_:Nat) (h1:zak s i=some (lo,n)) (h2:(chr s n==45)=true) (h3:zak s (n+1)=some (hi_,e_)) (h4:hi_<lo) :
  Cl 140 #[.string s,.int .i64 i] w (rB w (mbV (zab s i))):=by
 have hn37:¬chr s i=37:=beq_eq_false_iff_ne.1 hc;have HF:Hid (zab s i=.inr (i,1)):=(by show zab s i=_;unfold zab;rw [iN hn37,h1];exact (iP (beq_iff_eq.1 h2)).trans (by rw [h3];exact iP h4));obtain ⟨b1,b2,b3⟩:=zba h1;have h5:(hi_:Int)<(lo:Int):=by omega
 clear hn37;obtain ⟨q1,q2,q3⟩:=zcT w;have HH:=hO q1;have HG:=hO q2;have HR:=hO q3;clear q1 q2 q3;go_enter Tryz.func140,Tryz.ntmps140;go_wp2_with fail;refine (zan s i 37 (by omega) _).mono ?_;rintro e w1 ⟨rfl,rfl⟩;rw [hc];clear hc;go_wp2_with fail;refine (za6 s i hs _).mono ?_;rintro e w1 ⟨rfl,rfl⟩;rw [h1];dsimp only [itV];clear h1;go_wp2_with fail;refine (zan s n 45 (by omega) _).mono ?_;rintro e w1 ⟨rfl,rfl⟩;rw [h2];clear h2;go_wp2_with fail;rw [show (n:Int)+1=((n+1:Nat):Int) from by omega];refine (za6 s (n+1) hs _).mono ?_;rintro e w1 ⟨rfl,rfl⟩;rw [h3];dsimp only [itV];clear h3;go_wp2
 rw [HF.out];refine bodyPost_ret (v:=mbV (.inr (i,1))) (by simp [results,Tryz.results140,go_sem,mbV,zal, *]) rfl ⟨rfl,?_⟩;exact ((bR _ _).alloc (nL _) _).alloc (by simp) _
theorem zg2 (s:ByteArray) (i:Nat) (_hi:i<=s.size) (hs:s.size<=140737488355328) (w:World) (hc:(chr s i==37)=false) (lo n hi_ e_:Nat) (h1:zak s i=some (lo,n)) (h2:(chr s n==45)=true) (h3:zak s (n+1)=some (hi_,e_)) (h4:¬hi_<lo) :
  Cl 140 #[.string s,.int .i64 i] w (rB w (mbV (zab s i))):=by
 have hn37:¬chr s i=37:=beq_eq_false_iff_ne.1 hc;have HF:Hid (zab s i=.inl (spn lo hi_,e_)):=(by show zab s i=_;unfold zab;rw [iN hn37,h1];exact (iP (beq_iff_eq.1 h2)).trans (by rw [h3];exact iN h4));obtain ⟨b1,b2,b3⟩:=zba h1;obtain ⟨d1,d2,d3⟩:=zba h3;have h5:¬(hi_:Int)<(lo:Int):=by omega
 clear hn37;obtain ⟨q1,q2,q3⟩:=zcT w;have HH:=hO q1;have HG:=hO q2;have HR:=hO q3;clear q1 q2 q3;go_enter Tryz.func140,Tryz.ntmps140;go_wp2_with fail;refine (zan s i 37 (by omega) _).mono ?_;rintro e w1 ⟨rfl,rfl⟩;rw [hc];clear hc;go_wp2_with fail;refine (za6 s i hs _).mono ?_;rintro e w1 ⟨rfl,rfl⟩;rw [h1];dsimp only [itV];clear h1;go_wp2_with fail;refine (zan s n 45 (by omega) _).mono ?_;rintro e w1 ⟨rfl,rfl⟩;rw [h2];clear h2;go_wp2_with fail;rw [show (n:Int)+1=((n+1:Nat):Int) from by omega];refine (za6 s (n+1) hs _).mono ?_;rintro e w1 ⟨rfl,rfl⟩;rw [h3];dsimp only [itV];clear h3;go_wp2_with fail;refine (zaE lo hi_ _ (by omega) (by omega) (by omega)).mono ?_;rintro e w1 ⟨rfl,hb1⟩;have hl:w.heap.size+1<w1.heap.size:=by have h:=hb1.size;simp at h;omega
 have HR1:=hO (HR.trans (hb1.mono (by simp;omega)));obtain ⟨_,g0,g1,k0,k1⟩:=HG.below hb1 (by simp);obtain ⟨_,c0,c1,c2,c3,f0,f1,f2,f3⟩:=HH.below hb1 (by simp;omega);clear hb1 HH HG HR;generalize spn lo hi_=y at *;go_wp2
 rw [HF.out];refine bodyPost_ret (v:=mbV (.inl (y,e_))) (by simp [results,Tryz.results140,go_sem,mbV,zal, *]) rfl ⟨rfl,?_⟩;exact zaM HR1 (nL _) (by omega)
theorem zdb (s:ByteArray) (i:Nat) (hi:i<=s.size) (hs:s.size<=140737488355328) (w:World) :
  Cl 140 #[.string s,.int .i64 i] w (rB w (mbV (zab s i))):=by
 cases hc:(chr s i==37)
 ·cases h1:zak s i with
  | none=>exact zg0 s i hi hs w hc h1
  | some p =>
   obtain ⟨lo,n⟩:=p
   cases h2:(chr s n==45)
   ·exact ziv s i hi hs w hc lo n h1 h2
   ·cases h3:zak s (n+1) with
    | none=>exact zg1 s i hi hs w hc lo n h1 h2 h3
    | some p =>
     obtain ⟨hi_,e_⟩:=p;by_cases h4:hi_<lo
     ·exact zfP s i hi hs w hc lo n hi_ e_ h1 h2 h3 h4
     ·exact zg2 s i hi hs w hc lo n hi_ e_ h1 h2 h3 h4
 ·exact zgk s i hi hs w hc
theorem zbk {s:ByteArray} {f:Nat} {x:BitVec 256} {k:Nat} (h:chr s k=93):zag s (f+1) x k=.inl (x,k):=by
 unfold zag;rw [iP h]
theorem zaA {s:ByteArray} {f:Nat} {x:BitVec 256} {k a:Nat} {c:Int} (h:¬chr s k=93) (h1:zab s k=.inr (a,c)):zag s (f+1) x k=.inr (a,c):=by
 rw [zag,iN h,h1]
theorem zaC {s:ByteArray} {f:Nat} {x y:BitVec 256} {k n:Nat} (h:¬chr s k=93) (h1:zab s k=.inl (y,n)):zag s (f+1) x k=zag s f (x ||| y) n:=by
 rw [zag,iN h,h1]
theorem zdy {s:ByteArray} {i a:Nat} {c:Int} (h:zab s i=.inr (a,c)):(c != 0)=true/\a<=s.size+i+1:=by
 unfold zab at h
 split at h
 ·unfold zaW at h
  split at h
  ·simp at h
  ·simp only [Sum.inr.injEq,Prod.mk.injEq] at h;obtain ⟨rfl,rfl⟩:=h;exact ⟨rfl,by omega⟩
 ·split at h
  ·simp only [Sum.inr.injEq,Prod.mk.injEq] at h;obtain ⟨rfl,rfl⟩:=h;exact ⟨rfl,by omega⟩
  ·rename_i lo m hm
   have b1:=zba hm
   split at h
   ·split at h
    ·simp only [Sum.inr.injEq,Prod.mk.injEq] at h;obtain ⟨rfl,rfl⟩:=h;exact ⟨rfl,by omega⟩
    ·split at h
     ·simp only [Sum.inr.injEq,Prod.mk.injEq] at h;obtain ⟨rfl,rfl⟩:=h;exact ⟨rfl,by omega⟩
     ·simp at h
   ·simp at h
theorem zdc {s:ByteArray}:∀{f:Nat} {x:BitVec 256} {i a:Nat} {c:Int},zag s f x i=.inr (a,c)->(c != 0)=true:=by
 intro f
 induction f with
 | zero=>intro x i a c h;simp only [zag,Sum.inr.injEq,Prod.mk.injEq] at h;obtain ⟨rfl,rfl⟩:=h;rfl
 | succ f ih =>
  intro x i a c h;by_cases hc:chr s i=93
  ·rw [zbk hc] at h;simp at h
  ·cases hm:zab s i with
   | inr pq =>
    obtain ⟨a',c'⟩:=pq;rw [zaA hc hm] at h;simp only [Sum.inr.injEq,Prod.mk.injEq] at h;obtain ⟨rfl,rfl⟩:=h;exact (zdy hm).1
   | inl p=>obtain ⟨y,n⟩:=p;rw [zaC hc hm] at h;exact ih h
theorem zbu {s:ByteArray}:∀{f:Nat} {x y:BitVec 256} {i n:Nat},zag s f x i=.inl (y,n)->i<=n/\n<s.size/\chr s n=93:=by
 intro f
 induction f with
 | zero=>intro x y i n h;simp [zag] at h
 | succ f ih =>
  intro x y i n h;by_cases hc:chr s i=93
  ·rw [zbk hc] at h;simp only [Sum.inl.injEq,Prod.mk.injEq] at h;obtain ⟨rfl,rfl⟩:=h;exact ⟨by omega,zaB (by omega),hc⟩
  ·cases hm:zab s i with
   | inr pq =>
    obtain ⟨a',c'⟩:=pq;rw [zaA hc hm] at h;simp at h
   | inl p=>obtain ⟨y,n⟩:=p;have b:=zdf hm;rw [zaC hc hm] at h;have b2:=ih h;exact ⟨by omega,b2.2⟩
theorem boxes3 (w:World):Holds (((w.alloc z4).alloc fz).alloc z4) w.heap.size 0#256/\FHolds (((w.alloc z4).alloc fz).alloc z4) (w.heap.size+1) 0 0/\Holds (((w.alloc z4).alloc fz).alloc z4) (w.heap.size+1+1) 0#256/\bW w (((w.alloc z4).alloc fz).alloc z4):=by
 obtain ⟨h1,h2,h3⟩:=zcT w;have hs:((w.alloc z4).alloc fz).heap.size=w.heap.size+1+1:=by simp
 refine ⟨h1.alloc _,h2.below (B:=w.heap.size+1+1) ((bR _ _).alloc (by rw [hs];exact nL _) _) (by omega),?_,h3.alloc (by rw [hs];omega) _⟩;have h:=Holds.zero ((w.alloc z4).alloc fz);rw [hs] at h;exact h
structure AtM (w wr:World) (x:BitVec 256):Prop where
 h1:Holds wr w.heap.size 0#256
 h2:FHolds wr (w.heap.size+1) 0 0
 h3:Holds wr (w.heap.size+1+1) x
 hb:bW w wr
theorem AtM.below {B:Nat} {w wr w1:World} {x:BitVec 256} (h:AtM w wr x) (hb:Below B wr w1) (hB:w.heap.size+1+1<B):AtM w w1 x :=
 ⟨h.h1.below hb (by omega),h.h2.below hb (by omega),h.h3.below hb hB,h.hb.trans (hb.mono (by omega))⟩
theorem FHolds.put_other {w:World} {b c:Nat} {p q:Int} (h:FHolds w c p q) (hne:c≠b) (y:BitVec 256):FHolds (znF w b y) c p q:=by
 obtain ⟨lt,c0,c1,f0,f1⟩:=h
 constructor <;> simp [go_sem, *]
theorem AtM.put {w wr:World} {x:BitVec 256} (h:AtM w wr x) (y:BitVec 256):AtM w (znF wr (w.heap.size+1+1) y) y :=
 ⟨h.h1.put_other (by omega) y,h.h2.put_other (by omega) y,h.h3.put y,zcn h.hb (by omega) y⟩
theorem zbD (s:ByteArray) (i:Nat) (hi:i<=s.size) (hs:s.size<=140737488355328) (w:World) :
  Cl 126 #[.string s,.int .i64 i] w (rB w (mbV (zag s (s.size+1) 0#256 i))):=by
 obtain ⟨q1,q2,q3,q4⟩:=boxes3 w;have HA:Hid (AtM w (((w.alloc z4).alloc fz).alloc z4) 0#256):=⟨q1,q2,q3,q4⟩;clear q1 q2 q3 q4;generalize hR:zag s (s.size+1) 0#256 i=R;have HR:=hO hR;clear hR;go_enter Tryz.func126,Tryz.ntmps126;go_wp2_with fail;go_loopw [1] (fun t wr=>∃k:Nat,∃f:Nat,∃x:BitVec 256,k<=s.size/\t=.int .i64 k/\Hid (s.size+1<=f+k)/\Hid (zag s f x k=R)/\Hid (AtM w wr x)) (fun t _=>s.size - (intOf t).toNat)
 case atStart=>exact ⟨i,s.size+1,0#256,hi,rfl,show _<=_ by omega,HR,HA⟩
 case round =>
  obtain ⟨k,f,x,hk,rfl,hf,hr,ha⟩:=hrel;obtain ⟨g,rfl⟩:∃g,f=g+1:=⟨f - 1,by have h:=hf.out;omega⟩;clear HA HR;go_wp2_with fail;refine (zan s k 93 (by omega) _).mono ?_;rintro e w1 ⟨rfl,rfl⟩
  cases hc:(chr s k==93)
  ·have hn:¬chr s k=93:=beq_eq_false_iff_ne.1 hc
   cases hm:zab s k with
   | inl p =>
    obtain ⟨y,n⟩:=p;obtain ⟨b1,b2⟩:=zdf hm;have hr':Hid (zag s g (x ||| y) n=R):=((zaC hn hm).symm.trans hr.out);have hf':Hid (s.size+1<=g+n):=(by have h:=hf.out;show _<=_;omega);have HM:=hO hm;clear hn hm hc hr hf;go_wp2_with fail;refine (zdb s k hk hs _).mono ?_;rintro e w1 ⟨rfl,hb1⟩;rw [HM.out];dsimp only [mbV];have HA1:=hO (ha.out.below hb1 ha.out.h3.lt);clear hb1 ha HM;have hl:w.heap.size+1+1<w1.heap.size:=HA1.h3.lt;have HA2:Hid (AtM w ((w1.alloc (c4 y)).alloc fz) x):=HA1.below (B:=w1.heap.size) (((bR _ _).alloc (nL _) _).alloc (by simp) _) hl;clear HA1;obtain ⟨_,c0,c1,c2,c3,f0,f1,f2,f3⟩:=HA2.h3;go_wp2_with fail;refine (ziY x y _).mono ?_;rintro e w2 ⟨rfl,hb2⟩;have HA3:=hO (HA2.below hb2 HA2.h3.lt);clear HA2 hb2 c0 c1 c2 c3 f0 f1 f2 f3;obtain ⟨_,c0,c1,c2,c3,f0,f1,f2,f3⟩:=HA3.h3;go_wp2_with fail;go_roundw
    case rel =>
     exact ⟨n,g,x ||| y,b2,rfl,hf',hr',HA3.put (x ||| y)⟩
    case measure=>simp [intOf];omega
   | inr pq =>
    obtain ⟨a,c⟩:=pq;have hr':Hid (R=.inr (a,c)):=(hr.out.symm.trans (zaA hn hm));have HM:=hO hm;have hcn:=(zdy hm).1;clear hn hm hc hr hf;go_wp2_with fail;refine (zdb s k hk hs _).mono ?_;rintro e w1 ⟨rfl,hb1⟩;rw [HM.out];dsimp only [mbV];have HA1:=hO (ha.out.below hb1 ha.out.h3.lt);clear hb1 ha HM;have hl:w.heap.size+1+1<w1.heap.size:=HA1.h3.lt;have HA2:Hid (AtM w ((w1.alloc (c4 0#256)).alloc (.cells #[.int .i64 (a:Int),.int .i64 c] 27)) x):=HA1.below (B:=w1.heap.size) (((bR _ _).alloc (nL _) _).alloc (by simp) _) hl;clear HA1;obtain ⟨_,c0,c1,c2,c3,f0,f1,f2,f3⟩:=HA2.h1;obtain ⟨_,d0,d1,g0,g1⟩:=HA2.h2;go_wp2_with fail;go_region
    all_goals
     go_wp2
     rw [hr'.out];have HB2:=HA2.hb;simp only [c4,zal] at c0 c1 c2 c3 f0 f1 f2 f3 d0 d1 g0 g1 HB2 ⊢;refine bodyPost_ret (v:=mbV (.inr (a,c))) (by simp [results,Tryz.results126,go_sem,mbV,zal, *]) rfl ⟨rfl,?_⟩
     first | exact (zaM HB2 (nL _) (by omega)).drew | exact zaM HB2 (nL _) (by omega)
  ·have he:chr s k=93:=beq_iff_eq.1 hc
   have hr':Hid (R=.inl (x,k)):=(hr.out.symm.trans (zbk he));clear he hr hf hc;have hl:w.heap.size+1+1<w1.heap.size:=ha.out.h3.lt;obtain ⟨_,c0,c1,c2,c3,f0,f1,f2,f3⟩:=ha.out.h1;obtain ⟨_,d0,d1,g0,g1⟩:=ha.out.h2;obtain ⟨_,e0,e1,e2,e3,k0,k1,k2,k3⟩:=ha.out.h3;go_wp2_with fail;rw [hr'.out];refine bodyPost_ret (v:=mbV (.inl (x,k))) (by simp [results,Tryz.results126,go_sem,mbV,zal, *]) rfl ⟨rfl,?_⟩;exact zaM ha.out.hb (nL _) (by omega)
def zfQ:Rd (BitVec 256×Nat)->Rd (BitVec 256×Nat)
 | .inr (a,c)=>.inr (a,c)
 | .inl (x,e)=>.inl (x,e+1)
def zcU:Rd (BitVec 256×Nat)->Rd (BitVec 256×Nat)
 | .inr (a,c)=>.inr (a,c)
 | .inl (x,e)=>.inl (~~~ x,e+1)
def zap (s:ByteArray) (i:Int):Rd (BitVec 256×Nat) :=
 if i<0∨(s.size:Int)<i then .inr (0,1) else
 if chr s i.toNat=91 then
  if chr s (i.toNat+1)=94 then zcU (zag s (s.size+1) 0#256 (i.toNat+2)) else zfQ (zag s (s.size+1) 0#256 (i.toNat+1))
 else .inr (i.toNat,6)
theorem zmd (s:ByteArray) (i:Int) (h:i<0∨(s.size:Int)<i) (w:World) :
  Cl 109 #[.string s,.int .i64 i] w (rB w (mbV (zap s i))):=by
 have HF:Hid (zap s i=.inr (0,1)):=(by show zap s i=_;unfold zap;rw [iP h])
 rcases h with h | h
 ·go_enter Tryz.func109,Tryz.ntmps109
  go_wp2
  rw [HF.out];refine bodyPost_ret (v:=mbV (.inr (0,1))) (by simp [results,Tryz.results109,go_sem,mbV,zal, *]) rfl ⟨rfl,?_⟩;exact ((bR _ _).alloc (nL _) _).alloc (by simp) _
 ·have h0:¬i<0:=by omega
  go_enter Tryz.func109,Tryz.ntmps109;go_wp2
  rw [HF.out];refine bodyPost_ret (v:=mbV (.inr (0,1))) (by simp [results,Tryz.results109,go_sem,mbV,zal, *]) rfl ⟨rfl,?_⟩;exact ((bR _ _).alloc (nL _) _).alloc (by simp) _
theorem zka (s:ByteArray) (i:Nat) (hi:i<=s.size) (_hs:s.size<=140737488355328) (h:(chr s i==91)=false) (w:World) :
  Cl 109 #[.string s,.int .i64 i] w (rB w (mbV (zap s i))):=by
 have HF:Hid (zap s i=.inr (i,6)):=(by show zap s i=_;unfold zap;rw [iN (by omega),iN (by exact beq_eq_false_iff_ne.1 h)];rfl);go_enter Tryz.func109,Tryz.ntmps109;go_wp2_with fail;refine (zan s i 91 (by omega) _).mono ?_;rintro e w1 ⟨rfl,rfl⟩;rw [h];clear h;go_wp2_with fail;rw [HF.out];refine bodyPost_ret (v:=mbV (.inr (i,6))) (by simp [results,Tryz.results109,go_sem,mbV,zal, *]) rfl ⟨rfl,?_⟩;exact ((bR _ _).alloc (nL _) _).alloc (by simp) _
structure AtR (w wr:World):Prop where
 h1:Holds wr w.heap.size 0#256
 h2:FHolds wr (w.heap.size+1) 0 0
 hb:bW w wr
theorem AtR.below {B:Nat} {w wr w1:World} (h:AtR w wr) (hb:Below B wr w1) (hB:w.heap.size+1<B):AtR w w1 :=
 ⟨h.h1.below hb (by omega),h.h2.below hb hB,h.hb.trans (hb.mono (by omega))⟩
theorem AtR.start (w:World):AtR w ((w.alloc z4).alloc fz):=⟨(zcT w).1,(zcT w).2.1,(zcT w).2.2⟩
theorem zeY (s:ByteArray) (i:Nat) (hi:i+1<=s.size) (hs:s.size<=140737488355328) (h:(chr s i==91)=true) (h2:(chr s (i+1)==94)=false) (a:Nat) (c:Int) (hm:zag s (s.size+1) 0#256 (i+1)=.inr (a,c)) (w:World) :
  Cl 109 #[.string s,.int .i64 i] w (rB w (mbV (zap s i))):=by
 have HF:=(show Hid (zap s i=.inr (a,c)) from (by
  show zap s i=_;unfold zap
  rw [iN (by omega),Int.toNat_natCast,iP (beq_iff_eq.1 h),iN (beq_eq_false_iff_ne.1 h2),hm];rfl))
 have HM:=hO hm;have HA:=hO (AtR.start w);have hcn:=zdc hm;clear hm;go_enter Tryz.func109,Tryz.ntmps109;go_wp2_with fail;refine (zan s i 91 (by omega) _).mono ?_;rintro e w1 ⟨rfl,rfl⟩;rw [h];clear h;go_wp2_with fail;rw [show (i:Int)+1=((i+1:Nat):Int) from by omega];refine (zan s (i+1) 94 (by omega) _).mono ?_;rintro e w1 ⟨rfl,rfl⟩;rw [h2];clear h2;go_wp2_with fail;refine (zbD s (i+1) hi hs _).mono ?_;rintro e w1 ⟨rfl,hb1⟩;rw [HM.out];dsimp only [mbV];have HA1:=hO (HA.below hb1 HA.h2.lt);clear hb1 HA HM;have hl:w.heap.size+1<w1.heap.size:=HA1.h2.lt;have HA2:Hid (AtR w ((w1.alloc (c4 0#256)).alloc (.cells #[.int .i64 (a:Int),.int .i64 c] 27))):=HA1.below (B:=w1.heap.size) (((bR _ _).alloc (nL _) _).alloc (by simp) _) hl;clear HA1;obtain ⟨_,c0,c1,c2,c3,f0,f1,f2,f3⟩:=HA2.h1;obtain ⟨_,d0,d1,g0,g1⟩:=HA2.h2;go_wp2_with fail;go_region
 all_goals
  go_wp2
  rw [HF.out];have HB2:=HA2.hb;simp only [c4,zal] at c0 c1 c2 c3 f0 f1 f2 f3 d0 d1 g0 g1 HB2 ⊢;refine bodyPost_ret (v:=mbV (.inr (a,c))) (by simp [results,Tryz.results109,go_sem,mbV,zal, *]) rfl ⟨rfl,?_⟩
  first | exact (zaM HB2 (nL _) (by omega)).drew | exact zaM HB2 (nL _) (by omega)
theorem zfR (s:ByteArray) (i:Nat) (hi:i+2<=s.size) (hs:s.size<=140737488355328) (h:(chr s i==91)=true) (h2:(chr s (i+1)==94)=true) (a:Nat) (c:Int) (hm:zag s (s.size+1) 0#256 (i+2)=.inr (a,c)) (w:World) :
  Cl 109 #[.string s,.int .i64 i] w (rB w (mbV (zap s i))):=by
 have HF:=(show Hid (zap s i=.inr (a,c)) from (by
  show zap s i=_;unfold zap
  rw [iN (by omega),Int.toNat_natCast,iP (beq_iff_eq.1 h),iP (beq_iff_eq.1 h2),hm];rfl))
 have HM:=hO hm;have HA:=hO (AtR.start w);have hcn:=zdc hm;clear hm;go_enter Tryz.func109,Tryz.ntmps109;go_wp2_with fail;refine (zan s i 91 (by omega) _).mono ?_;rintro e w1 ⟨rfl,rfl⟩;rw [h];clear h;go_wp2_with fail;rw [show (i:Int)+1=((i+1:Nat):Int) from by omega];refine (zan s (i+1) 94 (by omega) _).mono ?_;rintro e w1 ⟨rfl,rfl⟩;rw [h2];clear h2;go_wp2_with fail;rw [show (i:Int)+1+1=((i+2:Nat):Int) from by omega];refine (zbD s (i+2) hi hs _).mono ?_;rintro e w1 ⟨rfl,hb1⟩;rw [HM.out];dsimp only [mbV];have HA1:=hO (HA.below hb1 HA.h2.lt);clear hb1 HA HM;have hl:w.heap.size+1<w1.heap.size:=HA1.h2.lt;have HA2:Hid (AtR w ((w1.alloc (c4 0#256)).alloc (.cells #[.int .i64 (a:Int),.int .i64 c] 27))):=HA1.below (B:=w1.heap.size) (((bR _ _).alloc (nL _) _).alloc (by simp) _) hl;clear HA1;obtain ⟨_,c0,c1,c2,c3,f0,f1,f2,f3⟩:=HA2.h1;obtain ⟨_,d0,d1,g0,g1⟩:=HA2.h2;go_wp2_with fail;go_region
 all_goals
  go_wp2
  rw [HF.out];have HB2:=HA2.hb;simp only [c4,zal] at c0 c1 c2 c3 f0 f1 f2 f3 d0 d1 g0 g1 HB2 ⊢;refine bodyPost_ret (v:=mbV (.inr (a,c))) (by simp [results,Tryz.results109,go_sem,mbV,zal, *]) rfl ⟨rfl,?_⟩
  first | exact (zaM HB2 (nL _) (by omega)).drew | exact zaM HB2 (nL _) (by omega)
theorem zfS (s:ByteArray) (i:Nat) (hi:i+1<=s.size) (hs:s.size<=140737488355328) (h:(chr s i==91)=true) (h2:(chr s (i+1)==94)=false) (x:BitVec 256) (n:Nat) (hm:zag s (s.size+1) 0#256 (i+1)=.inl (x,n)) (w:World) :
  Cl 109 #[.string s,.int .i64 i] w (rB w (mbV (zap s i))):=by
 have HF:=(show Hid (zap s i=.inl (x,n+1)) from (by
  show zap s i=_;unfold zap
  rw [iN (by omega),Int.toNat_natCast,iP (beq_iff_eq.1 h),iN (beq_eq_false_iff_ne.1 h2),hm];rfl))
 have HM:=hO hm;have HA:=hO (AtR.start w);obtain ⟨hn1,hn2,-⟩:=zbu hm;clear hm;go_enter Tryz.func109,Tryz.ntmps109;go_wp2_with fail;refine (zan s i 91 (by omega) _).mono ?_;rintro e w1 ⟨rfl,rfl⟩;rw [h];clear h;go_wp2_with fail;rw [show (i:Int)+1=((i+1:Nat):Int) from by omega];refine (zan s (i+1) 94 (by omega) _).mono ?_;rintro e w1 ⟨rfl,rfl⟩;rw [h2];clear h2;go_wp2_with fail;refine (zbD s (i+1) hi hs _).mono ?_;rintro e w1 ⟨rfl,hb1⟩;rw [HM.out];dsimp only [mbV];have HA1:=hO (HA.below hb1 HA.h2.lt);clear hb1 HA HM;have hl:w.heap.size+1<w1.heap.size:=HA1.h2.lt;have HA2:Hid (AtR w ((w1.alloc (c4 x)).alloc fz)):=HA1.below (B:=w1.heap.size) (((bR _ _).alloc (nL _) _).alloc (by simp) _) hl;clear HA1;obtain ⟨_,c0,c1,c2,c3,f0,f1,f2,f3⟩:=HA2.h1;obtain ⟨_,d0,d1,g0,g1⟩:=HA2.h2;go_wp2_with fail;rw [HF.out];refine bodyPost_ret (v:=mbV (.inl (x,n+1))) (by simp [results,Tryz.results109,go_sem,mbV,zal, *]) rfl ⟨rfl,?_⟩;exact zaM HA2.hb (nL _) (by omega)
theorem zgl (s:ByteArray) (i:Nat) (hi:i+2<=s.size) (hs:s.size<=140737488355328) (h:(chr s i==91)=true) (h2:(chr s (i+1)==94)=true) (x:BitVec 256) (n:Nat) (hm:zag s (s.size+1) 0#256 (i+2)=.inl (x,n)) (w:World) :
  Cl 109 #[.string s,.int .i64 i] w (rB w (mbV (zap s i))):=by
 have HF:=(show Hid (zap s i=.inl (~~~ x,n+1)) from (by
  show zap s i=_;unfold zap
  rw [iN (by omega),Int.toNat_natCast,iP (beq_iff_eq.1 h),iP (beq_iff_eq.1 h2),hm];rfl))
 have HM:=hO hm;have HA:=hO (AtR.start w);obtain ⟨hn1,hn2,-⟩:=zbu hm;clear hm;go_enter Tryz.func109,Tryz.ntmps109;go_wp2_with fail;refine (zan s i 91 (by omega) _).mono ?_;rintro e w1 ⟨rfl,rfl⟩;rw [h];clear h;go_wp2_with fail;rw [show (i:Int)+1=((i+1:Nat):Int) from by omega];refine (zan s (i+1) 94 (by omega) _).mono ?_;rintro e w1 ⟨rfl,rfl⟩;rw [h2];clear h2;go_wp2_with fail;rw [show (i:Int)+1+1=((i+2:Nat):Int) from by omega];refine (zbD s (i+2) hi hs _).mono ?_;rintro e w1 ⟨rfl,hb1⟩;rw [HM.out];dsimp only [mbV];have HA1:=hO (HA.below hb1 HA.h2.lt);clear hb1 HA HM;have hl:w.heap.size+1<w1.heap.size:=HA1.h2.lt;have HA2:Hid (AtR w ((w1.alloc (c4 x)).alloc fz)):=HA1.below (B:=w1.heap.size) (((bR _ _).alloc (nL _) _).alloc (by simp) _) hl;clear HA1;have HX:Hid (Holds ((w1.alloc (c4 x)).alloc fz) w1.heap.size x):=(Holds.new w1 x).alloc _;go_wp2_with fail;refine (zgD x _).mono ?_;rintro e w2 ⟨rfl,hb2⟩;have HA3:=hO (HA2.below hb2 HA2.h2.lt);have HX3:=hO (HX.below hb2 HX.lt);have hl2:w1.heap.size+1<w2.heap.size:=by have h:=hb2.size;simp at h;omega
 clear hb2 HA2 HX;obtain ⟨_,c0,c1,c2,c3,f0,f1,f2,f3⟩:=HA3.h1;obtain ⟨_,d0,d1,g0,g1⟩:=HA3.h2;obtain ⟨_,e0,e1,e2,e3,k0,k1,k2,k3⟩:=HX3.out;generalize ~~~ x=y at *;go_wp2_with fail;rw [HF.out];refine bodyPost_ret (v:=mbV (.inl (y,n+1))) (by simp [results,Tryz.results109,go_sem,mbV,zal, *]) rfl ⟨rfl,?_⟩;exact zaM (zcn HA3.hb (by omega) y) (nL _) (by omega)
theorem zme (s:ByteArray) (i:Int) (hs:s.size<=140737488355328) (w:World) :
  Cl 109 #[.string s,.int .i64 i] w (rB w (mbV (zap s i))):=by
 by_cases h:i<0∨(s.size:Int)<i
 ·exact zmd s i h w
 ·obtain ⟨n,rfl⟩:∃n:Nat,i=n:=⟨i.toNat,by omega⟩
  have hn:n<=s.size:=by omega
  cases h1:(chr s n==91)
  ·exact zka s n hn hs h1 w
  ·have hlt:n<s.size:=zaB (by rw [beq_iff_eq.1 h1];omega)
   cases h2:(chr s (n+1)==94)
   ·cases hm:zag s (s.size+1) 0#256 (n+1) with
    | inr pq =>
     obtain ⟨a,c⟩:=pq;exact zeY s n hlt hs h1 h2 a c hm w
    | inl p=>obtain ⟨x,e⟩:=p;exact zfS s n hlt hs h1 h2 x e hm w
   ·have hlt2:n+1<s.size:=zaB (by rw [beq_iff_eq.1 h2];omega)
    cases hm:zag s (s.size+1) 0#256 (n+2) with
    | inr pq =>
     obtain ⟨a,c⟩:=pq;exact zfR s n hlt2 hs h1 h2 a c hm w
    | inl p=>obtain ⟨x,e⟩:=p;exact zgl s n hlt2 hs h1 h2 x e hm w
theorem zkb {s:ByteArray} {i:Int} {x:BitVec 256} {n:Nat} (h:zap s i=.inl (x,n)):n<=s.size:=by
 unfold zap at h
 split at h
 ·simp at h
 ·split at h
  ·split at h
   ·cases hm:zag s (s.size+1) 0#256 (i.toNat+2) with
    | inr pq =>
     obtain ⟨a',c'⟩:=pq;rw [hm] at h;simp [zcU] at h
    | inl p=>obtain ⟨y,m⟩:=p;have b:=zbu hm;rw [hm] at h;simp only [zcU,Sum.inl.injEq,Prod.mk.injEq] at h;omega
   ·cases hm:zag s (s.size+1) 0#256 (i.toNat+1) with
    | inr pq =>
     obtain ⟨a',c'⟩:=pq;rw [hm] at h;simp [zfQ] at h
    | inl p=>obtain ⟨y,m⟩:=p;have b:=zbu hm;rw [hm] at h;simp only [zfQ,Sum.inl.injEq,Prod.mk.injEq] at h;omega
  ·simp at h
theorem zcy {B:Nat} {w w':World} {b:Nat} (h:Below B w w') (hb:B<=b) (y:BitVec 256):Below B w (znF w' b y) :=
 (((h.setCell hb _).setCell hb _).setCell hb _).setCell hb _
structure AtF (w wr:World) (x:BitVec 256):Prop where
 h1:Holds wr w.heap.size 0#256
 h2:Holds wr (w.heap.size+1) x
 hb:bW w wr
theorem AtF.below {B:Nat} {w wr w1:World} {x:BitVec 256} (h:AtF w wr x) (hb:Below B wr w1) (hB:w.heap.size+1<B):AtF w w1 x :=
 ⟨h.h1.below hb (by omega),h.h2.below hb hB,h.hb.trans (hb.mono (by omega))⟩
theorem AtF.start (w:World):AtF w ((w.alloc z4).alloc z4) 0#256 :=
 ⟨(Holds.zero w).alloc _,Holds.zero' w _,((bR _ _).alloc (nL _) _).alloc (by simp) _⟩
theorem AtF.put {w wr:World} {x:BitVec 256} (h:AtF w wr x) (y:BitVec 256):AtF w (znF wr (w.heap.size+1) y) y :=
 ⟨h.h1.put_other (by omega) y,h.h2.put y,zcy h.hb (by omega) y⟩
theorem AtF.drew {w wr:World} {x:BitVec 256} (h:AtF w wr x):AtF w wr.drew x:=h.below (bR wr.heap.size wr).drew h.h2.lt
theorem zkc (s:ByteArray) (i:Nat) (h:i<s.size) (w:World):(Instr.index 9 (.string s) (.int .i64 (i:Int))).run Tryz.prog w=.ok (.int .u8 (s[i].toNat:Int)) w:=by
 have h0:(0:Int)<=(i:Int):=by omega
 have h1:(i:Int)<(s.size:Int):=by omega
 rw [run_index_string _ _ _ _ _ Tryz.underlying9];simp [h0,h1]
def irV (i:Nat):Option (Nat×Nat)->Value
 | none=>.tuple #[.int .i64 (-1),.int .i64 i]
 | some (b,n)=>.tuple #[.int .i64 b,.int .i64 n]
theorem zfk {b n i:Nat} {b' n':Int} (hb:b'=b) (hn:n'=n):Ending.returned (.tuple #[.int .i64 b',.int .i64 n'])=.returned (irV i (some (b,n))):=by rw [hb,hn];rfl
theorem zkd (n:Nat) (h:¬(cls n).2=0):(cls n).2=10:=by
 by_cases hc:65<=n/\n<=90
 ·rcases zdN (n+32) with he | he
  ·rw [zgX n hc he] at h;exact absurd rfl h
  ·rw [zjV n hc he]
 ·rw [zeI n hc] at h ⊢
  rcases zdN n with he | he
  ·exact absurd he h
  ·exact he
def rrV:Rd (BitVec 256×Nat)->Value
 | .inl (x,n)=>.tuple #[sv x,.int .i64 n,.int .i64 0,.int .i64 0]
 | .inr (a,c)=>.tuple #[sv 0#256,.int .i64 0,.int .i64 a,.int .i64 c]
def zoE:Prop:=∀(s:ByteArray) (i:Nat),i<=s.size->s.size<=140737488355328->∀w:World,Cl 68 #[.string s,.int .i64 i] w (rB w (irV i (zak s i)))
theorem zke (s:ByteArray) (i:Int) (h:i<0∨(s.size:Int)<i) (w:World) :
  Cl 48 #[.string s,.int .i64 i] w (rB w (rrV (zap s i))):=by
 have HF:Hid (zap s i=.inr (0,1)):=(by show zap s i=_;unfold zap;rw [iP h])
 rcases h with h | h
 ·go_enter Tryz.func48,Tryz.ntmps48
  go_wp2
  rw [HF.out];refine bodyPost_ret (v:=rrV (.inr (0,1))) (by simp [results,Tryz.results48,go_sem,rrV,zal, *]) rfl ⟨rfl,?_⟩;exact zaN _ _
 ·have h0:¬i<0:=by omega
  go_enter Tryz.func48,Tryz.ntmps48;go_wp2
  rw [HF.out];refine bodyPost_ret (v:=rrV (.inr (0,1))) (by simp [results,Tryz.results48,go_sem,rrV,zal, *]) rfl ⟨rfl,?_⟩;exact zaN _ _
theorem ziw (s:ByteArray) (i:Nat) (hi:i<=s.size) (h:(chr s i != 91)=true) (w:World) :
  Cl 48 #[.string s,.int .i64 i] w (rB w (rrV (zap s i))):=by
 have HF:Hid (zap s i=.inr (i,6)):=(by show zap s i=_;unfold zap;rw [iN (by omega),iN (by exact bne_iff_ne.1 h)];rfl);have HX:Hid (∀w,Cl 40 #[.string s,.int .i64 i] w (rU w (.int .i64 (chr s i)))):=fun w=>za0 s i w
 generalize chr s i=c at *;go_enter Tryz.func48,Tryz.ntmps48;go_wp2_with fail;refine (HX _).mono ?_;rintro e w1 ⟨rfl,rfl⟩;go_wp2_with fail;rw [HF.out];refine bodyPost_ret (v:=rrV (.inr (i,6))) (by simp [results,Tryz.results48,go_sem,rrV,zal, *]) rfl ⟨rfl,?_⟩;exact zaN _ _
theorem zg3 (HI:zoE) (s:ByteArray) (n:Nat) (hn:n<s.size) (hs:s.size<=140737488355328) (h1:chr s n=91) (h2:(chr s (n+1)==94)=false) (w:World) :
  Cl 48 #[.string s,.int .i64 n] w (rB w (rrV (zfQ (zag s (s.size+1) 0#256 (n+1))))):=by
 have HIT:=hO HI;clear HI;have HX:Hid (∀w,Cl 40 #[.string s,.int .i64 n] w (rU w (.int .i64 91))):=fun w=>by have h:=za0 s n w;rw [h1] at h;exact h
 have HY:Hid (∀w,Cl 40 #[.string s,.int .i64 ((n:Int)+1)] w (rU w (.int .i64 (chr s (n+1))))):=fun w=>za0 s (n+1) w
 have HA:=hO (AtF.start w);generalize hR:zag s (s.size+1) 0#256 (n+1)=R;have HR:=hO hR;generalize chr s (n+1)=d at *;clear hR h1;go_enter Tryz.func48,Tryz.ntmps48;go_wp2_with fail;refine (HX _).mono ?_;rintro e w1 ⟨rfl,rfl⟩;go_wp2_with fail;refine (HY _).mono ?_;rintro e w1 ⟨rfl,rfl⟩;go_wp2_with fail;go_loopw [8] (fun t wr=>∃k:Nat,∃f:Nat,∃x:BitVec 256,k<=s.size/\t=.int .i64 k/\Hid (s.size+1<=f+k)/\Hid (zag s f x k=R)/\Hid (AtF w wr x)) (fun t _=>s.size - (intOf t).toNat)
 case atStart=>exact ⟨n+1,s.size+1,0#256,by omega,by go_num,show _<=_ by omega,HR,HA⟩
 case round =>
  obtain ⟨k,f,x,hk,rfl,hf,hr,ha⟩:=hrel;obtain ⟨g,rfl⟩:∃g,f=g+1:=⟨f - 1,by have h:=hf.out;omega⟩;clear HA HR HX HY h2;have HC:Hid (∀w,Cl 40 #[.string s,.int .i64 k] w (rU w (.int .i64 (chr s k)))):=fun w=>za0 s k w
  by_cases h93:chr s k=93
  ·have hr':Hid (R=.inl (x,k)):=(hr.out.symm.trans (zbk h93))
   rw [h93] at HC;clear hr hf h93 HIT;have hl:w.heap.size+1<wr.heap.size:=ha.out.h2.lt;obtain ⟨_,c0,c1,c2,c3,f0,f1,f2,f3⟩:=ha.out.h1;obtain ⟨_,d0,d1,d2,d3,g0,g1,g2,g3⟩:=ha.out.h2;go_wp2_with fail;refine (HC _).mono ?_;rintro e w1 ⟨rfl,rfl⟩;go_wp2_with fail;rw [hr'.out];refine bodyPost_ret (v:=rrV (.inl (x,k+1))) (by simp [results,Tryz.results48,go_sem,rrV,zal, *]) rfl ⟨rfl,?_⟩;exact zcy ha.out.hb (nL _) x
  have e93:(chr s k != 93)=true:=bne_iff_ne.2 h93;by_cases h37:chr s k=37
  ·have HM:Hid (zab s k=zaW s k):=(by show zab s k=_;unfold zab;rw [iP h37])
   have HD:Hid (∀w,Cl 40 #[.string s,.int .i64 ((k:Int)+1)] w (rU w (.int .i64 (chr s (k+1))))):=fun w=>za0 s (k+1) w
   have hlt:k<s.size:=zaB (by rw [h37];omega);by_cases hcl:k+1<s.size/\(cls (chr s (k+1)).toNat).2=0
   ·have hm:zab s k=.inl ((cls (chr s (k+1)).toNat).1,k+2):=by rw [HM.out];unfold zaW;rw [iP hcl]
    have hr':Hid (zag s g (x ||| (cls (chr s (k+1)).toNat).1) (k+2)=R):=((zaC h93 hm).symm.trans hr.out);have hf':Hid (s.size+1<=g+(k+2)):=(by have h:=hf.out;show _<=_;omega);have hb:=zbi s (k+1);have h0:0<=chr s (k+1):=by rw [zam hcl.1];omega
    have HK:Hid (∀w,Cl 66 #[.int .i64 (chr s (k+1))] w (rB w (.tuple #[sv (cls (chr s (k+1)).toNat).1,.int .i64 0]))):=fun w=>by
     have h:=zbt (chr s (k+1)).toNat (by omega) w;rw [hcl.2,show (((chr s (k+1)).toNat:Nat):Int)=chr s (k+1) from by omega] at h;exact h
    have hk2:k+2<=s.size:=by omega
    rw [h37] at HC e93;clear hr hf h93 HIT hcl hm HM h37 hb h0;generalize (cls (chr s (k+1)).toNat).1=y at *;generalize chr s (k+1)=q at *;go_wp2_with fail;refine (HC _).mono ?_;rintro e w1 ⟨rfl,rfl⟩;go_wp2_with fail;refine (HC _).mono ?_;rintro e w1 ⟨rfl,rfl⟩;go_wp2_with fail;refine (HD _).mono ?_;rintro e w1 ⟨rfl,rfl⟩;go_wp2_with fail;refine (HK _).mono ?_;rintro e w2 ⟨rfl,hb2⟩;have HA1:=hO (ha.out.below hb2 ha.out.h2.lt);have hl:w.heap.size+1<w2.heap.size:=HA1.h2.lt;have HA2:Hid (AtF w (w2.alloc (c4 y)) x):=HA1.below (B:=w2.heap.size) (zaN _ _) hl;clear hb2 ha HA1;obtain ⟨_,c0,c1,c2,c3,f0,f1,f2,f3⟩:=HA2.h2;go_wp2_with fail;refine (zas x y _).mono ?_;rintro e w3 ⟨rfl,hb3⟩;have HA3:=hO (HA2.below hb3 HA2.h2.lt);clear hb3 HA2 c0 c1 c2 c3 f0 f1 f2 f3;obtain ⟨_,c0,c1,c2,c3,f0,f1,f2,f3⟩:=HA3.h2;go_wp2_with fail;go_roundw
    case rel=>exact ⟨k+2,g,x ||| y,hk2,by go_num,hf',hr',HA3.put (x ||| y)⟩
    case measure=>simp [intOf];omega
   ·have hm:zab s k=.inr (k,10):=by rw [HM.out];unfold zaW;rw [iN hcl]
    have hr':Hid (R=.inr (k,10)):=(hr.out.symm.trans (zaA h93 hm));have HK:Hid (∀w,Cl 66 #[.int .i64 (chr s (k+1))] w fun e w'=>(∃y,e=.returned (.tuple #[sv y,.int .i64 10]))/\bW w w'):=fun w=>by
     by_cases hlt1:k+1<s.size
     ·have h0:0<=chr s (k+1):=by rw [zam hlt1];omega
      have hb:=zbi s (k+1);have h:=zbt (chr s (k+1)).toNat (by omega) w;rw [show (((chr s (k+1)).toNat:Nat):Int)=chr s (k+1) from by omega,zkd _ (fun q=>hcl ⟨hlt1,q⟩)] at h;refine h.mono ?_;rintro e w' ⟨rfl,hb⟩;exact ⟨⟨_,rfl⟩,hb⟩
     ·refine (zc1 (chr s (k+1)) w (by rw [zau hlt1];omega)).mono ?_
      rintro e w' ⟨rfl,hb⟩;exact ⟨⟨_,rfl⟩,hb⟩
    rw [h37] at HC e93;clear hr hf h93 HIT hcl hm HM h37;generalize chr s (k+1)=q at *;go_wp2_with fail;refine (HC _).mono ?_;rintro e w1 ⟨rfl,rfl⟩;go_wp2_with fail;refine (HC _).mono ?_;rintro e w1 ⟨rfl,rfl⟩;go_wp2_with fail;refine (HD _).mono ?_;rintro e w1 ⟨rfl,rfl⟩;go_wp2_with fail;refine (HK _).mono ?_;rintro e w2 ⟨⟨y,rfl⟩,hb2⟩;have HA1:=hO (ha.out.below hb2 ha.out.h2.lt);have hl:w.heap.size+1<w2.heap.size:=HA1.h2.lt;have HA2:Hid (AtF w (w2.alloc (c4 y)) x):=HA1.below (B:=w2.heap.size) (zaN _ _) hl;clear hb2 ha HA1;obtain ⟨_,c0,c1,c2,c3,f0,f1,f2,f3⟩:=HA2.h1;go_wp2_with fail;rw [hr'.out];refine bodyPost_ret (v:=rrV (.inr ((k),10))) (by simp [results,Tryz.results48,go_sem,rrV,zal, *]) rfl ⟨rfl,?_⟩;exact (((HA2.hb.setCell (nL _) _).setCell (nL _) _).setCell (nL _) _).setCell (nL _) _
  have e37:(chr s k==37)=false:=bF h37
  cases hit:zak s k with
  | none =>
   have hm:zab s k=.inr (k,6):=by unfold zab;rw [iN h37,hit]
   have hr':Hid (R=.inr (k,6)):=(hr.out.symm.trans (zaA h93 hm));have HK:Hid (∀w,Cl 68 #[.string s,.int .i64 k] w (rB w (.tuple #[.int .i64 (-1),.int .i64 k]))):=fun w=>by have h:=HIT s k hk hs w;rw [hit] at h;exact h
   clear hr hf h93 h37 HIT hm hit;generalize chr s k=c at *;go_wp2_with fail;refine (HC _).mono ?_;rintro e w1 ⟨rfl,rfl⟩;go_wp2_with fail;refine (HC _).mono ?_;rintro e w1 ⟨rfl,rfl⟩;go_wp2_with fail;refine (HK _).mono ?_;rintro e w2 ⟨rfl,hb2⟩;have HA1:=hO (ha.out.below hb2 ha.out.h2.lt);have hl:w.heap.size+1<w2.heap.size:=HA1.h2.lt;clear hb2 ha;obtain ⟨_,c0,c1,c2,c3,f0,f1,f2,f3⟩:=HA1.h1;go_wp2_with fail;rw [hr'.out];refine bodyPost_ret (v:=rrV (.inr ((k),6))) (by simp [results,Tryz.results48,go_sem,rrV,zal, *]) rfl ⟨rfl,?_⟩;exact (((HA1.hb.setCell (nL _) _).setCell (nL _) _).setCell (nL _) _).setCell (nL _) _
  | some p =>
   obtain ⟨lo,nx⟩:=p;obtain ⟨b1,b2,b3⟩:=zba hit;have HK:Hid (∀w,Cl 68 #[.string s,.int .i64 k] w (rB w (.tuple #[.int .i64 lo,.int .i64 nx]))):=fun w=>by have h:=HIT s k hk hs w;rw [hit] at h;exact h
   have HN:Hid (∀w,Cl 40 #[.string s,.int .i64 nx] w (rU w (.int .i64 (chr s nx)))):=fun w=>za0 s nx w
   have hlo0:¬(lo:Int)<0:=by omega
   by_cases h45:chr s nx=45
   ·have hltn:nx<s.size:=zaB (by rw [h45];omega)
    rw [h45] at HN
    cases hi2:zak s (nx+1) with
    | none =>
     have hm:zab s k=.inr ((nx+1),6):=by unfold zab;rw [iN h37,hit];exact (iP h45).trans (by rw [hi2])
     have hr':Hid (R=.inr ((nx+1),6)):=(hr.out.symm.trans (zaA h93 hm));have HL:Hid (∀w,Cl 68 #[.string s,.int .i64 ((nx:Int)+1)] w (rB w (.tuple #[.int .i64 (-1),.int .i64 ((nx+1:Nat):Int)]))):=fun w=>by have h:=HIT s (nx+1) (by omega) hs w;rw [hi2] at h;exact h
     clear hr hf h93 h37 HIT hm hit hi2 h45;generalize chr s k=c at *;go_wp2_with fail;refine (HC _).mono ?_;rintro e w1 ⟨rfl,rfl⟩;go_wp2_with fail;refine (HC _).mono ?_;rintro e w1 ⟨rfl,rfl⟩;go_wp2_with fail;refine (HK _).mono ?_;rintro e w2 ⟨rfl,hb2⟩;have HA1:=hO (ha.out.below hb2 ha.out.h2.lt);clear hb2 ha;go_wp2_with fail;refine (HN _).mono ?_;rintro e w3 ⟨rfl,rfl⟩;go_wp2_with fail;refine (HL _).mono ?_;rintro e w4 ⟨rfl,hb4⟩;have HA2:=hO (HA1.below hb4 HA1.h2.lt);have hl:w.heap.size+1<w4.heap.size:=HA2.h2.lt;clear hb4 HA1;obtain ⟨_,c0,c1,c2,c3,f0,f1,f2,f3⟩:=HA2.h1;go_wp2_with fail;rw [hr'.out];refine bodyPost_ret (v:=rrV (.inr ((nx+1),6))) (by simp [results,Tryz.results48,go_sem,rrV,zal, *]) rfl ⟨rfl,?_⟩;exact (((HA2.hb.setCell (nL _) _).setCell (nL _) _).setCell (nL _) _).setCell (nL _) _
    | some p2 =>
     obtain ⟨up,en⟩:=p2;obtain ⟨b4,b5,b6⟩:=zba hi2;have HL:Hid (∀w,Cl 68 #[.string s,.int .i64 ((nx:Int)+1)] w (rB w (.tuple #[.int .i64 up,.int .i64 en]))):=fun w=>by have h:=HIT s (nx+1) (by omega) hs w;rw [hi2] at h;exact h
     have hup0:¬(up:Int)<0:=by omega
     by_cases hul:up<lo
     ·have hm:zab s k=.inr (k,1):=by unfold zab;rw [iN h37,hit];exact (iP h45).trans (by rw [hi2];exact iP hul)
      have hr':Hid (R=.inr (k,1)):=(hr.out.symm.trans (zaA h93 hm));have hul':(up:Int)<(lo:Int):=by omega
      clear hr hf h93 h37 HIT hm hit hi2 h45;generalize chr s k=c at *;go_wp2_with fail;refine (HC _).mono ?_;rintro e w1 ⟨rfl,rfl⟩;go_wp2_with fail;refine (HC _).mono ?_;rintro e w1 ⟨rfl,rfl⟩;go_wp2_with fail;refine (HK _).mono ?_;rintro e w2 ⟨rfl,hb2⟩;have HA1:=hO (ha.out.below hb2 ha.out.h2.lt);clear hb2 ha;go_wp2_with fail;refine (HN _).mono ?_;rintro e w3 ⟨rfl,rfl⟩;go_wp2_with fail;refine (HL _).mono ?_;rintro e w4 ⟨rfl,hb4⟩;have HA2:=hO (HA1.below hb4 HA1.h2.lt);have hl:w.heap.size+1<w4.heap.size:=HA2.h2.lt;clear hb4 HA1;obtain ⟨_,c0,c1,c2,c3,f0,f1,f2,f3⟩:=HA2.h1;go_wp2_with fail;rw [hr'.out];refine bodyPost_ret (v:=rrV (.inr ((k),1))) (by simp [results,Tryz.results48,go_sem,rrV,zal, *]) rfl ⟨rfl,?_⟩;exact (((HA2.hb.setCell (nL _) _).setCell (nL _) _).setCell (nL _) _).setCell (nL _) _
     ·have hm:zab s k=.inl (spn lo up,en):=by unfold zab;rw [iN h37,hit];exact (iP h45).trans (by rw [hi2];exact iN hul)
      have hr':Hid (zag s g (x ||| spn lo up) en=R):=((zaC h93 hm).symm.trans hr.out);have hf':Hid (s.size+1<=g+en):=(by have h:=hf.out;show _<=_;omega);have hul':¬(up:Int)<(lo:Int):=by omega
      have HFT:Hid (∀w,Cl 69 #[.int .i64 lo,.int .i64 up] w (rB w (sv (spn lo up)))):=fun w=>zad lo up w (by omega) (by omega) (by omega)
      clear hr hf h93 h37 HIT hm hit hi2 h45;generalize spn (lo:Int) (up:Int)=y at *;generalize chr s k=c at *;go_wp2_with fail;refine (HC _).mono ?_;rintro e w1 ⟨rfl,rfl⟩;go_wp2_with fail;refine (HC _).mono ?_;rintro e w1 ⟨rfl,rfl⟩;go_wp2_with fail;refine (HK _).mono ?_;rintro e w2 ⟨rfl,hb2⟩;have HA1:=hO (ha.out.below hb2 ha.out.h2.lt);clear hb2 ha;go_wp2_with fail;refine (HN _).mono ?_;rintro e w3 ⟨rfl,rfl⟩;go_wp2_with fail;refine (HL _).mono ?_;rintro e w4 ⟨rfl,hb4⟩;have HA2:=hO (HA1.below hb4 HA1.h2.lt);clear hb4 HA1;obtain ⟨l0,c0,c1,c2,c3,f0,f1,f2,f3⟩:=HA2.h2;go_wp2_with fail;go_region_with (first | (go_at_call 69;refine (HFT.out _).mono ?_;rintro e w5 ⟨rfl,hb⟩;have hA2:=(show AtF w w5 x from (by first | exact HA2.out.below hb HA2.out.h2.lt | exact HA2.out.drew.below hb HA2.out.h2.lt));replace HA2:=(show Hid _ from hA2);clear hA2 hb c0 c1 c2 c3 f0 f1 f2 f3;obtain ⟨_,c0,c1,c2,c3,f0,f1,f2,f3⟩:=HA2.out.h2) | (go_at_call 67;refine (zas x y _).mono ?_;rintro e w6 ⟨rfl,hb⟩;have hA2:=(show AtF w w6 x from (by first | exact HA2.out.below hb HA2.out.h2.lt | exact HA2.out.drew.below hb HA2.out.h2.lt));replace HA2:=(show Hid _ from hA2);clear hA2 hb c0 c1 c2 c3 f0 f1 f2 f3;obtain ⟨_,c0,c1,c2,c3,f0,f1,f2,f3⟩:=HA2.out.h2))
      all_goals
       go_wp2
       go_roundw
       case rel=>exact ⟨en,g,x ||| y,b6,by go_num,hf',hr',HA2.put _⟩
       case measure=>simp [intOf];omega
   ·have hm:zab s k=.inl (spn lo lo,nx):=by unfold zab;rw [iN h37,hit];exact iN h45
    have hr':Hid (zag s g (x ||| spn lo lo) nx=R):=((zaC h93 hm).symm.trans hr.out);have hf':Hid (s.size+1<=g+nx):=(by have h:=hf.out;show _<=_;omega);have e45:(chr s nx==45)=false:=bF h45;have HFT:Hid (∀w,Cl 69 #[.int .i64 lo,.int .i64 lo] w (rB w (sv (spn lo lo)))):=fun w=>zad lo lo w (by omega) (by omega) (by omega)
    clear hr hf h93 h37 HIT hm hit h45;generalize spn (lo:Int) (lo:Int)=y at *;generalize chr s nx=q at *;generalize chr s k=c at *;go_wp2_with fail;refine (HC _).mono ?_;rintro e w1 ⟨rfl,rfl⟩;go_wp2_with fail;refine (HC _).mono ?_;rintro e w1 ⟨rfl,rfl⟩;go_wp2_with fail;refine (HK _).mono ?_;rintro e w2 ⟨rfl,hb2⟩;have HA2:=hO (ha.out.below hb2 ha.out.h2.lt);clear hb2 ha;go_wp2_with fail;refine (HN _).mono ?_;rintro e w3 ⟨rfl,rfl⟩;obtain ⟨l0,c0,c1,c2,c3,f0,f1,f2,f3⟩:=HA2.h2;go_wp2_with fail;go_region_with (first | (go_at_call 69;refine (HFT.out _).mono ?_;rintro e w5 ⟨rfl,hb⟩;have hA2:=(show AtF w w5 x from (by first | exact HA2.out.below hb HA2.out.h2.lt | exact HA2.out.drew.below hb HA2.out.h2.lt));replace HA2:=(show Hid _ from hA2);clear hA2 hb c0 c1 c2 c3 f0 f1 f2 f3;obtain ⟨_,c0,c1,c2,c3,f0,f1,f2,f3⟩:=HA2.out.h2) | (go_at_call 67;refine (zas x y _).mono ?_;rintro e w6 ⟨rfl,hb⟩;have hA2:=(show AtF w w6 x from (by first | exact HA2.out.below hb HA2.out.h2.lt | exact HA2.out.drew.below hb HA2.out.h2.lt));replace HA2:=(show Hid _ from hA2);clear hA2 hb c0 c1 c2 c3 f0 f1 f2 f3;obtain ⟨_,c0,c1,c2,c3,f0,f1,f2,f3⟩:=HA2.out.h2))
    all_goals
     go_wp2
     go_roundw
     case rel=>exact ⟨nx,g,x ||| y,b3,by go_num,hf',hr',HA2.put _⟩
     case measure=>simp [intOf];omega
theorem zix (HI:zoE) (s:ByteArray) (n:Nat) (hn:n+1<s.size) (hs:s.size<=140737488355328) (h1:chr s n=91) (h2:(chr s (n+1)==94)=true) (w:World) :
  Cl 48 #[.string s,.int .i64 n] w (rB w (rrV (zcU (zag s (s.size+1) 0#256 (n+2))))):=by
 have HIT:=hO HI;clear HI;have HX:Hid (∀w,Cl 40 #[.string s,.int .i64 n] w (rU w (.int .i64 91))):=fun w=>by have h:=za0 s n w;rw [h1] at h;exact h
 have HY:Hid (∀w,Cl 40 #[.string s,.int .i64 ((n:Int)+1)] w (rU w (.int .i64 (chr s (n+1))))):=fun w=>za0 s (n+1) w
 have HA:=hO (AtF.start w);generalize hR:zag s (s.size+1) 0#256 (n+2)=R;have HR:=hO hR;generalize chr s (n+1)=d at *;clear hR h1;go_enter Tryz.func48,Tryz.ntmps48;go_wp2_with fail;refine (HX _).mono ?_;rintro e w1 ⟨rfl,rfl⟩;go_wp2_with fail;refine (HY _).mono ?_;rintro e w1 ⟨rfl,rfl⟩;go_wp2_with fail;go_loopw [8] (fun t wr=>∃k:Nat,∃f:Nat,∃x:BitVec 256,k<=s.size/\t=.int .i64 k/\Hid (s.size+1<=f+k)/\Hid (zag s f x k=R)/\Hid (AtF w wr x)) (fun t _=>s.size - (intOf t).toNat)
 case atStart=>exact ⟨n+2,s.size+1,0#256,by omega,by go_num,show _<=_ by omega,HR,HA⟩
 case round =>
  obtain ⟨k,f,x,hk,rfl,hf,hr,ha⟩:=hrel;obtain ⟨g,rfl⟩:∃g,f=g+1:=⟨f - 1,by have h:=hf.out;omega⟩;clear HA HR HX HY h2;have HC:Hid (∀w,Cl 40 #[.string s,.int .i64 k] w (rU w (.int .i64 (chr s k)))):=fun w=>za0 s k w
  by_cases h93:chr s k=93
  ·have hr':Hid (R=.inl (x,k)):=(hr.out.symm.trans (zbk h93))
   rw [h93] at HC;clear hr hf h93 HIT;have hl:w.heap.size+1<wr.heap.size:=ha.out.h2.lt;obtain ⟨_,c0,c1,c2,c3,f0,f1,f2,f3⟩:=ha.out.h1;obtain ⟨_,d0,d1,d2,d3,g0,g1,g2,g3⟩:=ha.out.h2;go_wp2_with fail;refine (HC _).mono ?_;rintro e w1 ⟨rfl,rfl⟩;go_wp2_with fail;refine (zhv x _).mono ?_;rintro e w2 ⟨rfl,hb2⟩;have HA2:=hO (ha.out.below hb2 ha.out.h2.lt);have hl2:w.heap.size+1<w2.heap.size:=HA2.h2.lt;clear hb2 ha c0 c1 c2 c3 f0 f1 f2 f3 d0 d1 d2 d3 g0 g1 g2 g3;obtain ⟨_,c0,c1,c2,c3,f0,f1,f2,f3⟩:=HA2.h1;obtain ⟨_,d0,d1,d2,d3,g0,g1,g2,g3⟩:=HA2.h2;have HRT:Hid (zcU R=.inl (~~~ x,k+1)):=(by show zcU R=_;rw [hr'.out];rfl);generalize ~~~ x=y at *;go_wp2_with fail;rw [HRT.out];refine bodyPost_ret (v:=rrV (.inl (y,k+1))) (by simp [results,Tryz.results48,go_sem,rrV,zal, *]) rfl ⟨rfl,?_⟩;exact zcy (zcy HA2.hb (by omega) y) (nL _) y
  have e93:(chr s k != 93)=true:=bne_iff_ne.2 h93;by_cases h37:chr s k=37
  ·have HM:Hid (zab s k=zaW s k):=(by show zab s k=_;unfold zab;rw [iP h37])
   have HD:Hid (∀w,Cl 40 #[.string s,.int .i64 ((k:Int)+1)] w (rU w (.int .i64 (chr s (k+1))))):=fun w=>za0 s (k+1) w
   have hlt:k<s.size:=zaB (by rw [h37];omega);by_cases hcl:k+1<s.size/\(cls (chr s (k+1)).toNat).2=0
   ·have hm:zab s k=.inl ((cls (chr s (k+1)).toNat).1,k+2):=by rw [HM.out];unfold zaW;rw [iP hcl]
    have hr':Hid (zag s g (x ||| (cls (chr s (k+1)).toNat).1) (k+2)=R):=((zaC h93 hm).symm.trans hr.out);have hf':Hid (s.size+1<=g+(k+2)):=(by have h:=hf.out;show _<=_;omega);have hb:=zbi s (k+1);have h0:0<=chr s (k+1):=by rw [zam hcl.1];omega
    have HK:Hid (∀w,Cl 66 #[.int .i64 (chr s (k+1))] w (rB w (.tuple #[sv (cls (chr s (k+1)).toNat).1,.int .i64 0]))):=fun w=>by
     have h:=zbt (chr s (k+1)).toNat (by omega) w;rw [hcl.2,show (((chr s (k+1)).toNat:Nat):Int)=chr s (k+1) from by omega] at h;exact h
    have hk2:k+2<=s.size:=by omega
    rw [h37] at HC e93;clear hr hf h93 HIT hcl hm HM h37 hb h0;generalize (cls (chr s (k+1)).toNat).1=y at *;generalize chr s (k+1)=q at *;go_wp2_with fail;refine (HC _).mono ?_;rintro e w1 ⟨rfl,rfl⟩;go_wp2_with fail;refine (HC _).mono ?_;rintro e w1 ⟨rfl,rfl⟩;go_wp2_with fail;refine (HD _).mono ?_;rintro e w1 ⟨rfl,rfl⟩;go_wp2_with fail;refine (HK _).mono ?_;rintro e w2 ⟨rfl,hb2⟩;have HA1:=hO (ha.out.below hb2 ha.out.h2.lt);have hl:w.heap.size+1<w2.heap.size:=HA1.h2.lt;have HA2:Hid (AtF w (w2.alloc (c4 y)) x):=HA1.below (B:=w2.heap.size) (zaN _ _) hl;clear hb2 ha HA1;obtain ⟨_,c0,c1,c2,c3,f0,f1,f2,f3⟩:=HA2.h2;go_wp2_with fail;refine (zas x y _).mono ?_;rintro e w3 ⟨rfl,hb3⟩;have HA3:=hO (HA2.below hb3 HA2.h2.lt);clear hb3 HA2 c0 c1 c2 c3 f0 f1 f2 f3;obtain ⟨_,c0,c1,c2,c3,f0,f1,f2,f3⟩:=HA3.h2;go_wp2_with fail;go_roundw
    case rel=>exact ⟨k+2,g,x ||| y,hk2,by go_num,hf',hr',HA3.put (x ||| y)⟩
    case measure=>simp [intOf];omega
   ·have hm:zab s k=.inr (k,10):=by rw [HM.out];unfold zaW;rw [iN hcl]
    have hr':Hid (R=.inr (k,10)):=(hr.out.symm.trans (zaA h93 hm));have HK:Hid (∀w,Cl 66 #[.int .i64 (chr s (k+1))] w fun e w'=>(∃y,e=.returned (.tuple #[sv y,.int .i64 10]))/\bW w w'):=fun w=>by
     by_cases hlt1:k+1<s.size
     ·have h0:0<=chr s (k+1):=by rw [zam hlt1];omega
      have hb:=zbi s (k+1);have h:=zbt (chr s (k+1)).toNat (by omega) w;rw [show (((chr s (k+1)).toNat:Nat):Int)=chr s (k+1) from by omega,zkd _ (fun q=>hcl ⟨hlt1,q⟩)] at h;refine h.mono ?_;rintro e w' ⟨rfl,hb⟩;exact ⟨⟨_,rfl⟩,hb⟩
     ·refine (zc1 (chr s (k+1)) w (by rw [zau hlt1];omega)).mono ?_
      rintro e w' ⟨rfl,hb⟩;exact ⟨⟨_,rfl⟩,hb⟩
    rw [h37] at HC e93;clear hr hf h93 HIT hcl hm HM h37;generalize chr s (k+1)=q at *;go_wp2_with fail;refine (HC _).mono ?_;rintro e w1 ⟨rfl,rfl⟩;go_wp2_with fail;refine (HC _).mono ?_;rintro e w1 ⟨rfl,rfl⟩;go_wp2_with fail;refine (HD _).mono ?_;rintro e w1 ⟨rfl,rfl⟩;go_wp2_with fail;refine (HK _).mono ?_;rintro e w2 ⟨⟨y,rfl⟩,hb2⟩;have HA1:=hO (ha.out.below hb2 ha.out.h2.lt);have hl:w.heap.size+1<w2.heap.size:=HA1.h2.lt;have HA2:Hid (AtF w (w2.alloc (c4 y)) x):=HA1.below (B:=w2.heap.size) (zaN _ _) hl;clear hb2 ha HA1;obtain ⟨_,c0,c1,c2,c3,f0,f1,f2,f3⟩:=HA2.h1;go_wp2_with fail;rw [hr'.out];refine bodyPost_ret (v:=rrV (.inr ((k),10))) (by simp [results,Tryz.results48,go_sem,rrV,zal, *]) rfl ⟨rfl,?_⟩;exact (((HA2.hb.setCell (nL _) _).setCell (nL _) _).setCell (nL _) _).setCell (nL _) _
  have e37:(chr s k==37)=false:=bF h37
  cases hit:zak s k with
  | none =>
   have hm:zab s k=.inr (k,6):=by unfold zab;rw [iN h37,hit]
   have hr':Hid (R=.inr (k,6)):=(hr.out.symm.trans (zaA h93 hm));have HK:Hid (∀w,Cl 68 #[.string s,.int .i64 k] w (rB w (.tuple #[.int .i64 (-1),.int .i64 k]))):=fun w=>by have h:=HIT s k hk hs w;rw [hit] at h;exact h
   clear hr hf h93 h37 HIT hm hit;generalize chr s k=c at *;go_wp2_with fail;refine (HC _).mono ?_;rintro e w1 ⟨rfl,rfl⟩;go_wp2_with fail;refine (HC _).mono ?_;rintro e w1 ⟨rfl,rfl⟩;go_wp2_with fail;refine (HK _).mono ?_;rintro e w2 ⟨rfl,hb2⟩;have HA1:=hO (ha.out.below hb2 ha.out.h2.lt);have hl:w.heap.size+1<w2.heap.size:=HA1.h2.lt;clear hb2 ha;obtain ⟨_,c0,c1,c2,c3,f0,f1,f2,f3⟩:=HA1.h1;go_wp2_with fail;rw [hr'.out];refine bodyPost_ret (v:=rrV (.inr ((k),6))) (by simp [results,Tryz.results48,go_sem,rrV,zal, *]) rfl ⟨rfl,?_⟩;exact (((HA1.hb.setCell (nL _) _).setCell (nL _) _).setCell (nL _) _).setCell (nL _) _
  | some p =>
   obtain ⟨lo,nx⟩:=p;obtain ⟨b1,b2,b3⟩:=zba hit;have HK:Hid (∀w,Cl 68 #[.string s,.int .i64 k] w (rB w (.tuple #[.int .i64 lo,.int .i64 nx]))):=fun w=>by have h:=HIT s k hk hs w;rw [hit] at h;exact h
   have HN:Hid (∀w,Cl 40 #[.string s,.int .i64 nx] w (rU w (.int .i64 (chr s nx)))):=fun w=>za0 s nx w
   have hlo0:¬(lo:Int)<0:=by omega
   by_cases h45:chr s nx=45
   ·have hltn:nx<s.size:=zaB (by rw [h45];omega)
    rw [h45] at HN
    cases hi2:zak s (nx+1) with
    | none =>
     have hm:zab s k=.inr ((nx+1),6):=by unfold zab;rw [iN h37,hit];exact (iP h45).trans (by rw [hi2])
     have hr':Hid (R=.inr ((nx+1),6)):=(hr.out.symm.trans (zaA h93 hm));have HL:Hid (∀w,Cl 68 #[.string s,.int .i64 ((nx:Int)+1)] w (rB w (.tuple #[.int .i64 (-1),.int .i64 ((nx+1:Nat):Int)]))):=fun w=>by have h:=HIT s (nx+1) (by omega) hs w;rw [hi2] at h;exact h
     clear hr hf h93 h37 HIT hm hit hi2 h45;generalize chr s k=c at *;go_wp2_with fail;refine (HC _).mono ?_;rintro e w1 ⟨rfl,rfl⟩;go_wp2_with fail;refine (HC _).mono ?_;rintro e w1 ⟨rfl,rfl⟩;go_wp2_with fail;refine (HK _).mono ?_;rintro e w2 ⟨rfl,hb2⟩;have HA1:=hO (ha.out.below hb2 ha.out.h2.lt);clear hb2 ha;go_wp2_with fail;refine (HN _).mono ?_;rintro e w3 ⟨rfl,rfl⟩;go_wp2_with fail;refine (HL _).mono ?_;rintro e w4 ⟨rfl,hb4⟩;have HA2:=hO (HA1.below hb4 HA1.h2.lt);have hl:w.heap.size+1<w4.heap.size:=HA2.h2.lt;clear hb4 HA1;obtain ⟨_,c0,c1,c2,c3,f0,f1,f2,f3⟩:=HA2.h1;go_wp2_with fail;rw [hr'.out];refine bodyPost_ret (v:=rrV (.inr ((nx+1),6))) (by simp [results,Tryz.results48,go_sem,rrV,zal, *]) rfl ⟨rfl,?_⟩;exact (((HA2.hb.setCell (nL _) _).setCell (nL _) _).setCell (nL _) _).setCell (nL _) _
    | some p2 =>
     obtain ⟨up,en⟩:=p2;obtain ⟨b4,b5,b6⟩:=zba hi2;have HL:Hid (∀w,Cl 68 #[.string s,.int .i64 ((nx:Int)+1)] w (rB w (.tuple #[.int .i64 up,.int .i64 en]))):=fun w=>by have h:=HIT s (nx+1) (by omega) hs w;rw [hi2] at h;exact h
     have hup0:¬(up:Int)<0:=by omega
     by_cases hul:up<lo
     ·have hm:zab s k=.inr (k,1):=by unfold zab;rw [iN h37,hit];exact (iP h45).trans (by rw [hi2];exact iP hul)
      have hr':Hid (R=.inr (k,1)):=(hr.out.symm.trans (zaA h93 hm));have hul':(up:Int)<(lo:Int):=by omega
      clear hr hf h93 h37 HIT hm hit hi2 h45;generalize chr s k=c at *;go_wp2_with fail;refine (HC _).mono ?_;rintro e w1 ⟨rfl,rfl⟩;go_wp2_with fail;refine (HC _).mono ?_;rintro e w1 ⟨rfl,rfl⟩;go_wp2_with fail;refine (HK _).mono ?_;rintro e w2 ⟨rfl,hb2⟩;have HA1:=hO (ha.out.below hb2 ha.out.h2.lt);clear hb2 ha;go_wp2_with fail;refine (HN _).mono ?_;rintro e w3 ⟨rfl,rfl⟩;go_wp2_with fail;refine (HL _).mono ?_;rintro e w4 ⟨rfl,hb4⟩;have HA2:=hO (HA1.below hb4 HA1.h2.lt);have hl:w.heap.size+1<w4.heap.size:=HA2.h2.lt;clear hb4 HA1;obtain ⟨_,c0,c1,c2,c3,f0,f1,f2,f3⟩:=HA2.h1;go_wp2_with fail;rw [hr'.out];refine bodyPost_ret (v:=rrV (.inr ((k),1))) (by simp [results,Tryz.results48,go_sem,rrV,zal, *]) rfl ⟨rfl,?_⟩;exact (((HA2.hb.setCell (nL _) _).setCell (nL _) _).setCell (nL _) _).setCell (nL _) _
     ·have hm:zab s k=.inl (spn lo up,en):=by unfold zab;rw [iN h37,hit];exact (iP h45).trans (by rw [hi2];exact iN hul)
      have hr':Hid (zag s g (x ||| spn lo up) en=R):=((zaC h93 hm).symm.trans hr.out);have hf':Hid (s.size+1<=g+en):=(by have h:=hf.out;show _<=_;omega);have hul':¬(up:Int)<(lo:Int):=by omega
      have HFT:Hid (∀w,Cl 69 #[.int .i64 lo,.int .i64 up] w (rB w (sv (spn lo up)))):=fun w=>zad lo up w (by omega) (by omega) (by omega)
      clear hr hf h93 h37 HIT hm hit hi2 h45;generalize spn (lo:Int) (up:Int)=y at *;generalize chr s k=c at *;go_wp2_with fail;refine (HC _).mono ?_;rintro e w1 ⟨rfl,rfl⟩;go_wp2_with fail;refine (HC _).mono ?_;rintro e w1 ⟨rfl,rfl⟩;go_wp2_with fail;refine (HK _).mono ?_;rintro e w2 ⟨rfl,hb2⟩;have HA1:=hO (ha.out.below hb2 ha.out.h2.lt);clear hb2 ha;go_wp2_with fail;refine (HN _).mono ?_;rintro e w3 ⟨rfl,rfl⟩;go_wp2_with fail;refine (HL _).mono ?_;rintro e w4 ⟨rfl,hb4⟩;have HA2:=hO (HA1.below hb4 HA1.h2.lt);clear hb4 HA1;obtain ⟨l0,c0,c1,c2,c3,f0,f1,f2,f3⟩:=HA2.h2;go_wp2_with fail;go_region_with (first | (go_at_call 69;refine (HFT.out _).mono ?_;rintro e w5 ⟨rfl,hb⟩;have hA2:=(show AtF w w5 x from (by first | exact HA2.out.below hb HA2.out.h2.lt | exact HA2.out.drew.below hb HA2.out.h2.lt));replace HA2:=(show Hid _ from hA2);clear hA2 hb c0 c1 c2 c3 f0 f1 f2 f3;obtain ⟨_,c0,c1,c2,c3,f0,f1,f2,f3⟩:=HA2.out.h2) | (go_at_call 67;refine (zas x y _).mono ?_;rintro e w6 ⟨rfl,hb⟩;have hA2:=(show AtF w w6 x from (by first | exact HA2.out.below hb HA2.out.h2.lt | exact HA2.out.drew.below hb HA2.out.h2.lt));replace HA2:=(show Hid _ from hA2);clear hA2 hb c0 c1 c2 c3 f0 f1 f2 f3;obtain ⟨_,c0,c1,c2,c3,f0,f1,f2,f3⟩:=HA2.out.h2))
      all_goals
       go_wp2
       go_roundw
       case rel=>exact ⟨en,g,x ||| y,b6,by go_num,hf',hr',HA2.put _⟩
       case measure=>simp [intOf];omega
   ·have hm:zab s k=.inl (spn lo lo,nx):=by unfold zab;rw [iN h37,hit];exact iN h45
    have hr':Hid (zag s g (x ||| spn lo lo) nx=R):=((zaC h93 hm).symm.trans hr.out);have hf':Hid (s.size+1<=g+nx):=(by have h:=hf.out;show _<=_;omega);have e45:(chr s nx==45)=false:=bF h45;have HFT:Hid (∀w,Cl 69 #[.int .i64 lo,.int .i64 lo] w (rB w (sv (spn lo lo)))):=fun w=>zad lo lo w (by omega) (by omega) (by omega)
    clear hr hf h93 h37 HIT hm hit h45;generalize spn (lo:Int) (lo:Int)=y at *;generalize chr s nx=q at *;generalize chr s k=c at *;go_wp2_with fail;refine (HC _).mono ?_;rintro e w1 ⟨rfl,rfl⟩;go_wp2_with fail;refine (HC _).mono ?_;rintro e w1 ⟨rfl,rfl⟩;go_wp2_with fail;refine (HK _).mono ?_;rintro e w2 ⟨rfl,hb2⟩;have HA2:=hO (ha.out.below hb2 ha.out.h2.lt);clear hb2 ha;go_wp2_with fail;refine (HN _).mono ?_;rintro e w3 ⟨rfl,rfl⟩;obtain ⟨l0,c0,c1,c2,c3,f0,f1,f2,f3⟩:=HA2.h2;go_wp2_with fail;go_region_with (first | (go_at_call 69;refine (HFT.out _).mono ?_;rintro e w5 ⟨rfl,hb⟩;have hA2:=(show AtF w w5 x from (by first | exact HA2.out.below hb HA2.out.h2.lt | exact HA2.out.drew.below hb HA2.out.h2.lt));replace HA2:=(show Hid _ from hA2);clear hA2 hb c0 c1 c2 c3 f0 f1 f2 f3;obtain ⟨_,c0,c1,c2,c3,f0,f1,f2,f3⟩:=HA2.out.h2) | (go_at_call 67;refine (zas x y _).mono ?_;rintro e w6 ⟨rfl,hb⟩;have hA2:=(show AtF w w6 x from (by first | exact HA2.out.below hb HA2.out.h2.lt | exact HA2.out.drew.below hb HA2.out.h2.lt));replace HA2:=(show Hid _ from hA2);clear hA2 hb c0 c1 c2 c3 f0 f1 f2 f3;obtain ⟨_,c0,c1,c2,c3,f0,f1,f2,f3⟩:=HA2.out.h2))
    all_goals
     go_wp2
     go_roundw
     case rel=>exact ⟨nx,g,x ||| y,b3,by go_num,hf',hr',HA2.put _⟩
     case measure=>simp [intOf];omega
end Go.Proofs.YtkihfkcmcdiajabGreatDoor
