/- DERIVED. Plain mathematics and walks, laid together (14). -/
import Derived.Lib.ConvBytes
import Derived.Lib.AtoiErrMem
import Derived.Lib.UnsafeStr
import Derived.Lib.AppendStr
import Derived.Test.YtkihfkcmcdiajaaGreatDoorPr13
set_option maxRecDepth 100000
set_option maxHeartbeats 8000000
namespace Go.Proofs.YtkihfkcmcdiajaaGreatDoor.N
open Go.RowKit
structure BX (k:Nat) (W:World) (tv:Value) (i z d:Int) (v:Value) (p c:Int):Prop where
 s:DB W k tv (.int .i64 i) (.int .i64 z) (.int .i64 d) v (.int .i64 p) (.int .i64 c)
 r:DB W (k+1) (.slice none 0 0) (.int .i64 0) (.int .i64 0) (.int .i64 0) (.slice none 0 0) (.int .i64 0) (.int .i64 0)
theorem BX.new (W:World) (tv:Value) (i z d:Int) (v:Value) (p c:Int):BX W.heap.size ((W.alloc (rdO tv i z d v p c)).alloc rdZ) tv i z d v p c/\Below W.heap.size W ((W.alloc (rdO tv i z d v p c)).alloc rdZ) :=
 ⟨⟨(DB.mk (heap_alloc_new W _)).below (zaa _ _),⟨by have h:=heap_alloc_new (W.alloc (rdO tv i z d v p c)) rdZ;(try unfold rB at h);rw [sA] at h;exact h⟩⟩,((bR _ _).alloc (nL _) _).alloc (by rw [sA];omega) _⟩
theorem BX.later {k:Nat} {W W':World} {tv:Value} {i z d:Int} {v:Value} {p c:Int} (h:BX k W tv i z d v p c) (hb:Below W.heap.size W W'):BX k W' tv i z d v p c:=⟨h.s.below hb,h.r.below hb⟩
theorem DB.fd {W W':World} {k:Nat} {a0 a1 a2 a3 a4 a5 a6:Value} (h:DB W k a0 a1 a2 a3 a4 a5 a6) {B n:Nat} {v v':Value} {xs:List Value} (ho:W.ownsRow B 51 7 v n xs) (hf:Fd W W' v v'):DB W' k a0 a1 a2 a3 a4 a5 a6:=h.same (hf.block k h.lt (fun q=>h.ne ho (by decide) q rfl))
theorem BX.fd {k:Nat} {W W':World} {tv:Value} {i z d:Int} {v0:Value} {p c:Int} (h:BX k W tv i z d v0 p c) {B n:Nat} {v v':Value} {xs:List Value} (ho:W.ownsRow B 51 7 v n xs) (hf:Fd W W' v v'):BX k W' tv i z d v0 p c:=⟨h.s.fd ho hf,h.r.fd ho hf⟩
theorem BX.st {k:Nat} {W:World} {tv:Value} {i z d:Int} {v:Value} {p c:Int} (h:BX k W tv i z d v p c) (tv2:Value) (i2 z2 d2:Int) (v2:Value) (p2 c2:Int):BX k (st7 W k tv2 (.int .i64 i2) (.int .i64 z2) (.int .i64 d2) v2 (.int .i64 p2) (.int .i64 c2)) tv2 i2 z2 d2 v2 p2 c2 :=
 ⟨zaH h.s _ _ _ _ _ _ _,h.r.same (zaw _ _ _ _ _ _ _ (by omega))⟩
theorem BX.s1 {k:Nat} {W:World} {tv:Value} {i z d:Int} {v:Value} {p c:Int} (h:BX k W tv i z d v p c) (x:Int):BX k (W.setCell ⟨k,1,none⟩ (.int .i64 x)) tv x z d v p c:=⟨h.s.s1 _,h.r.same (bS _ _ _ _ (by show k+1≠k;omega))⟩
theorem BX.s3 {k:Nat} {W:World} {tv:Value} {i z d:Int} {v:Value} {p c:Int} (h:BX k W tv i z d v p c) (x:Int):BX k (W.setCell ⟨k,3,none⟩ (.int .i64 x)) tv i z x v p c:=⟨h.s.s3 _,h.r.same (bS _ _ _ _ (by show k+1≠k;omega))⟩
theorem BX.s4 {k:Nat} {W:World} {tv:Value} {i z d:Int} {v:Value} {p c:Int} (h:BX k W tv i z d v p c) (x:Value):BX k (W.setCell ⟨k,4,none⟩ x) tv i z d x p c:=⟨h.s.s4 _,h.r.same (bS _ _ _ _ (by show k+1≠k;omega))⟩
theorem BX.s5 {k:Nat} {W:World} {tv:Value} {i z d:Int} {v:Value} {p c:Int} (h:BX k W tv i z d v p c) (x:Int):BX k (W.setCell ⟨k,5,none⟩ (.int .i64 x)) tv i z d v x c:=⟨h.s.s5 _,h.r.same (bS _ _ _ _ (by show k+1≠k;omega))⟩
theorem BX.s6 {k:Nat} {W:World} {tv:Value} {i z d:Int} {v:Value} {p c:Int} (h:BX k W tv i z d v p c) (x:Int):BX k (W.setCell ⟨k,6,none⟩ (.int .i64 x)) tv i z d v p x:=⟨h.s.s6 _,h.r.same (bS _ _ _ _ (by show k+1≠k;omega))⟩
theorem zml {E:PE} {w0 W:World} {tv:Value} {i d:Nat} {v:Value} {L:List Nd} (h:DS E w0 W tv i d v L) (zz dd p q x:Int) (j:Nat) (hj:(j:Int)=(i:Int)+x) (hjl:j<E.l.length) (hz:E.l.length<=1000000) :
  Calls Tryz.prog 53 #[rdV tv i zz dd v p q,.int .i64 x] W (rB W (.int .i64 (kdA E j))):=by
 obtain ⟨A,c,rfl,hc⟩:=h.tk;obtain ⟨g,rfl,lg,hr⟩:=hc j hjl;obtain ⟨B,n,rfl⟩:=zag h.o;have hk:kdA E j=(tkA E j).kd:=(zc3 hjl).symm;rw [hk];have a0:=hr.c0;have hn:¬g=W.heap.size:=by omega
 have u1:IntKind.i64.wrap ((i:Int)+x)=(j:Int):=by rw [<-hj,wI];omega
 have z0:(0:Int)<=(j:Int):=by omega
 have z1:(j:Int)<(E.l.length:Int):=by omega
 have z2:¬(E.l.length:Int)<=(j:Int):=by omega
 have HB:Hid (Below W.heap.size W (W.alloc (rdO (.slice (some ⟨g,0,none⟩) E.l.length c) i zz dd (.slice B L.length n) p q))):=zaa _ _;clear hc hr h hk hj hjl hz;generalize (tkA E j).kd=kk at *;go_enter Tryz.func53,Tryz.ntmps53;go_wp2_with fail;go_ret
 exact ⟨rfl,HB.out⟩
theorem zky {E:PE} {w0 W:World} {tv:Value} {i d:Nat} {v:Value} {L:List Nd} (h:DS E w0 W tv i d v L) (zz dd p q x:Int) (j:Nat) (hj:(j:Int)=(i:Int)+x) (hjl:¬j<E.l.length) (hz:j<=1000010) :
  Calls Tryz.prog 53 #[rdV tv i zz dd v p q,.int .i64 x] W (rB W (.int .i64 (kdA E j))):=by
 obtain ⟨A,c,rfl,_⟩:=h.tk;obtain ⟨B,n,rfl⟩:=zag h.o;rw [zm8 hjl];have u1:IntKind.i64.wrap ((i:Int)+x)=(j:Int):=by rw [<-hj,wI];omega
 have z2:(E.l.length:Int)<=(j:Int):=by omega
 have HB:Hid (Below W.heap.size W (W.alloc (rdO (.slice A E.l.length c) i zz dd (.slice B L.length n) p q))):=zaa _ _;clear h hj hjl hz;go_enter Tryz.func53,Tryz.ntmps53;go_wp2_with fail;go_ret
 exact ⟨rfl,HB.out⟩
theorem za3 {E:PE} {w0 W:World} {tv:Value} {i d:Nat} {v:Value} {L:List Nd} (h:DS E w0 W tv i d v L) (zz dd p q x:Int) (j:Nat) (hj:(j:Int)=(i:Int)+x) (hx:x<=1) (hz:E.l.length<=1000000) :
  Calls Tryz.prog 53 #[rdV tv i zz dd v p q,.int .i64 x] W (rB W (.int .i64 (kdA E j))):=by
 by_cases hl:j<E.l.length
 ·exact zml h zz dd p q x j hj hl hz
 ·exact zky h zz dd p q x j hj hl (by have:=h.hi;omega)
theorem zmm {E:PE} {w0 W:World} {tv:Value} {i d:Nat} {v:Value} {L:List Nd} (h:DS E w0 W tv i d v L) (z:Nat) (dd p x:Int) (hi:i<E.l.length) :
  Calls Tryz.prog 32 #[rdV tv i z dd v p 0,.int .i64 x] W (rB W (rdV tv i z dd v (plA E z i) x)):=by
 obtain ⟨B,n,rfl⟩:=zag h.o;have HX:=BX.new W tv i z dd (.slice B L.length n) p 0;have HBX:=hO HX.1;have HBL:=hO HX.2;have HD:Hid (DS E w0 ((W.alloc (rdO tv i z dd (.slice B L.length n) p 0)).alloc rdZ) tv i d (.slice B L.length n) L):=h.later HX.2;obtain ⟨A,c,rfl,_⟩:=h.tk;have HK:Hid (∀W,Cl 28 #[rdV (.slice A E.l.length c) i z dd (.slice B L.length n) p 0] W (rB W (.bool true))):=fun W=>zaO A E.l.length c i z dd B L.length n p 0 W
 have hP:plA E z i=(tkA E i).fr:=by unfold plA;rw [iP hi]
 rw [hP];have z0:(0:Int)<=(i:Int):=by omega
 have z1:(i:Int)<(E.l.length:Int):=by omega
 have HI:Hid (i<E.l.length):=hi;clear h HX hP hi;go_enter Tryz.func32,Tryz.ntmps32;go_wp2_with fail;generalize (W.alloc (rdO (.slice A E.l.length c) i z dd (.slice B L.length n) p 0)).alloc rdZ=w1 at *;refine (HK _).mono ?_;rintro e w2 ⟨rfl,hb⟩;have HX2:=hO (HBX.later hb);have HB2:Hid (Below W.heap.size W w2):=HBL.trans (hb.mono HBL.size);have HD2:=hO (HD.later hb);clear hb HK HBX HBL HD;obtain ⟨k0,k1,k2,k3,k4,k5,k6⟩:=HX2.s.cl;obtain ⟨f0,f1,f2,f3,f4,f5,f6⟩:=HX2.r.fzs;obtain ⟨m0,m1,m2,m3,m4,m5,m6⟩:=HX2.r.cl;have g5:=HX2.s.fz 5;have g6:=HX2.s.fz 6;obtain ⟨A',c',e',hc⟩:=HD2.tk;obtain ⟨g,hA,lg,hr⟩:=hc i HI.out
 cases e'
 subst hA;have q2:=hr.c2;have hgk:¬g=W.heap.size:=by
  have:=HX2.s.ne HD2.t (by decide) (j:=g) rfl;exact this
 clear hc hr HD2;go_wp2_with fail;refine zaV (s:=4) rfl rfl rfl (zaH (((HX2.s5 _).s6 _).s5 _).r _ _ _ _ _ _ _) ?_;exact ⟨rfl,zaq (((HB2.setCell (p:=⟨W.heap.size,5,none⟩) (nL _) _).setCell (p:=⟨W.heap.size,6,none⟩) (nL _) _).setCell (p:=⟨W.heap.size,5,none⟩) (nL _) _) (Nat.le_succ _) _ _ _ _ _ _ _⟩
theorem zkz {E:PE} {w0 W:World} {tv:Value} {i d:Nat} {v:Value} {L:List Nd} (h:DS E w0 W tv i d v L) (z:Nat) (dd p x:Int) (hi:¬i<E.l.length) :
  Calls Tryz.prog 32 #[rdV tv i z dd v p 0,.int .i64 x] W (rB W (rdV tv i z dd v (plA E z i) x)):=by
 obtain ⟨B,n,rfl⟩:=zag h.o;have HX:=BX.new W tv i z dd (.slice B L.length n) p 0;have HBX:=hO HX.1;have HBL:=hO HX.2;have HD:Hid (DS E w0 ((W.alloc (rdO tv i z dd (.slice B L.length n) p 0)).alloc rdZ) tv i d (.slice B L.length n) L):=h.later HX.2;obtain ⟨A,c,rfl,_⟩:=h.tk;have HK:Hid (∀W,Cl 28 #[rdV (.slice A E.l.length c) i z dd (.slice B L.length n) p 0] W (rB W (.bool true))):=fun W=>zaO A E.l.length c i z dd B L.length n p 0 W
 have hP:plA E z i=(z:Int):=by unfold plA;rw [iN hi]
 rw [hP];have z2:¬(i:Int)<(E.l.length:Int):=by omega
 have HI:Hid (¬i<E.l.length):=hi;clear h HX hP hi;go_enter Tryz.func32,Tryz.ntmps32;go_wp2_with fail;generalize (W.alloc (rdO (.slice A E.l.length c) i z dd (.slice B L.length n) p 0)).alloc rdZ=w1 at *;refine (HK _).mono ?_;rintro e w2 ⟨rfl,hb⟩;have HX2:=hO (HBX.later hb);have HB2:Hid (Below W.heap.size W w2):=HBL.trans (hb.mono HBL.size);have HD2:=hO (HD.later hb);clear hb HK HBX HBL HD;obtain ⟨k0,k1,k2,k3,k4,k5,k6⟩:=HX2.s.cl;obtain ⟨f0,f1,f2,f3,f4,f5,f6⟩:=HX2.r.fzs;obtain ⟨m0,m1,m2,m3,m4,m5,m6⟩:=HX2.r.cl;have g5:=HX2.s.fz 5;have g6:=HX2.s.fz 6;go_wp2_with fail;refine zaV (s:=4) rfl rfl rfl (zaH ((HX2.s5 _).s6 _).r _ _ _ _ _ _ _) ?_;exact ⟨rfl,zaq ((HB2.setCell (p:=⟨W.heap.size,5,none⟩) (nL _) _).setCell (p:=⟨W.heap.size,6,none⟩) (nL _) _) (Nat.le_succ _) _ _ _ _ _ _ _⟩
theorem zbB {E:PE} {w0 W:World} {tv:Value} {i d:Nat} {v:Value} {L:List Nd} (h:DS E w0 W tv i d v L) (z:Nat) (dd p x:Int) :
  Calls Tryz.prog 32 #[rdV tv i z dd v p 0,.int .i64 x] W (rB W (rdV tv i z dd v (plA E z i) x)):=by
 by_cases hl:i<E.l.length
 ·exact zmm h z dd p x hl
 ·exact zkz h z dd p x hl
end Go.Proofs.YtkihfkcmcdiajaaGreatDoor.N
namespace Go.Proofs.YtkihfkcmcdiajaaGreatDoor.T
open Go.RowKit
structure NX (W:World) (b:Nat) (n:Nd):Prop where
 heap:W.heap[b]?=some (.cells #[.int .i64 n.op,.int .i64 n.nn,.string n.tx,.int .u64 n.s0,.int .u64 n.s1,.int .u64 n.s2,.int .u64 n.s3] 51 (0,0))
theorem NX.lt {W:World} {b:Nat} {n:Nd} (h:NX W b n):b<W.heap.size:=(Array.getElem?_eq_some_iff.1 h.heap).1
theorem NX.same {W W':World} {b:Nat} {n:Nd} (h:NX W b n) (hb:W'.heap[b]?=W.heap[b]?):NX W' b n:=⟨hb.trans h.heap⟩
theorem NX.nb {W:World} {b:Nat} {n:Nd} (h:NX W b n):NB W b 0 n:=by
 have key:∀(j:Nat) u,(#[Value.int .i64 n.op,.int .i64 n.nn,.string n.tx,.int .u64 n.s0,.int .u64 n.s1,.int .u64 n.s2,.int .u64 n.s3]:Array Value)[j]?=some u->W.cell? ⟨b,j,none⟩=some u:=fun j u hu=>by
  rw [cell_of_row W b j _ 51 (0,0) h.heap];exact hu
 exact ⟨key 0 _ rfl,key 1 _ rfl,key 2 _ rfl,key 3 _ rfl,key 4 _ rfl,key 5 _ rfl,key 6 _ rfl⟩
theorem NX.fz {W:World} {b:Nat} {n:Nd} (h:NX W b n) (j:Nat):W.frozen? ⟨b,j,none⟩=false:=frozen_of_row W b j _ 51 h.heap
end Go.Proofs.YtkihfkcmcdiajaaGreatDoor.T
namespace Go.Proofs.YtkihfkcmcdiajaaGreatDoor.N
open Go.RowKit
theorem zcc {W:World} {b:Nat} {n:Nd} (h:T.NX W b n):W.cell? ⟨b,0,none⟩=some (.int .i64 n.op)/\W.cell? ⟨b,1,none⟩=some (.int .i64 n.nn)/\W.cell? ⟨b,2,none⟩=some (.string n.tx)/\W.cell? ⟨b,3,none⟩=some (.int .u64 n.s0)/\W.cell? ⟨b,4,none⟩=some (.int .u64 n.s1)/\W.cell? ⟨b,5,none⟩=some (.int .u64 n.s2)/\W.cell? ⟨b,6,none⟩=some (.int .u64 n.s3):=by
 obtain ⟨d0,d1,d2,d3,d4,d5,d6⟩:=h.nb;simp only [Nat.zero_add] at d0 d1 d2 d3 d4 d5 d6;exact ⟨d0,d1,d2,d3,d4,d5,d6⟩
theorem zm9 (W:World) (o:Obj) (a0 a1 a2 a3 a4 a5 a6:Value):DB ((W.alloc o).alloc (.cells #[a0,a1,a2,a3,a4,a5,a6] 65)) (W.heap.size+1) a0 a1 a2 a3 a4 a5 a6/\Below W.heap.size W ((W.alloc o).alloc (.cells #[a0,a1,a2,a3,a4,a5,a6] 65)) :=
 ⟨⟨by have h:=heap_alloc_new (W.alloc o) (.cells #[a0,a1,a2,a3,a4,a5,a6] 65);(try unfold rB at h);rw [sA] at h;exact h⟩,((bR _ _).alloc (nL _) _).alloc (by rw [sA];omega) _⟩
theorem zkA {E:PE} {w0 W:World} {tv:Value} {i d:Nat} {v:Value} {L:List Nd} (h:DS E w0 W tv i d v L) (ii z p c:Int) (hd:¬240<=d) :
  Calls Tryz.prog 141 #[rdV tv ii z d v p c] W (rB W (rdV tv ii z (d+1:Nat) v p c)):=by
 obtain ⟨B,n,rfl⟩:=zag h.o;obtain ⟨A,ct,rfl,_⟩:=h.tk;obtain ⟨m,hm⟩:∃m,m=d+1:=⟨_,rfl⟩;rw [<-hm];have u1:IntKind.i64.wrap ((d:Int)+1)=(m:Int):=by rw [wI];omega
 have t1:¬(240:Int)<=(d:Int):=by omega
 clear h hd hm;go_enter Tryz.func141,Tryz.ntmps141;go_wp2_with fail;refine zaV (s:=2) rfl rfl rfl (zm9 W _ _ _ _ _ _ _ _).1 ?_;exact ⟨rfl,(zm9 W _ _ _ _ _ _ _ _).2⟩
theorem zkB {E:PE} {w0 W:World} {tv:Value} {i d:Nat} {v:Value} {L:List Nd} (h:DS E w0 W tv i d v L) (z:Nat) (p:Int) (hd:240<=d) :
  Calls Tryz.prog 141 #[rdV tv i z d v p 0] W (rB W (rdV tv i z d v (plA E z i) 4)):=by
 obtain ⟨B,n,rfl⟩:=zag h.o;have HX:=BX.new W tv i z d (.slice B L.length n) p 0;have HBX:=hO HX.1;have HBL:=hO HX.2;have HF:Hid (∀_:Unit,Cl 32 #[rdV tv i z d (.slice B L.length n) p 0,.int .i64 4] ((W.alloc (rdO tv i z d (.slice B L.length n) p 0)).alloc rdZ) fun e W'=>e=.returned (rdV tv i z d (.slice B L.length n) (plA E z i) 4)/\Below ((W.alloc (rdO tv i z d (.slice B L.length n) p 0)).alloc rdZ).heap.size ((W.alloc (rdO tv i z d (.slice B L.length n) p 0)).alloc rdZ) W'):=fun _=>zbB (h.later HX.2) z d p 4
 obtain ⟨A,ct,rfl,_⟩:=h.tk;have t1:(240:Int)<=(d:Int):=by omega
 clear h HX hd;generalize plA E z i=pl at *;go_enter Tryz.func141,Tryz.ntmps141;go_wp2_with fail;generalize (W.alloc (rdO (.slice A E.l.length ct) i z d (.slice B L.length n) p 0)).alloc rdZ=w1 at *;refine (HF ()).mono ?_;rintro e w2 ⟨rfl,hb⟩;have HX2:=hO (HBX.later hb);have HB2:Hid (Below W.heap.size W w2):=HBL.trans (hb.mono HBL.size);clear hb HF HBX HBL;obtain ⟨f0,f1,f2,f3,f4,f5,f6⟩:=HX2.r.fzs;obtain ⟨m0,m1,m2,m3,m4,m5,m6⟩:=HX2.r.cl;go_wp2_with fail;refine zaV (s:=2) rfl rfl rfl (zaH HX2.r _ _ _ _ _ _ _) ?_;exact ⟨rfl,zaq HB2 (Nat.le_succ _) _ _ _ _ _ _ _⟩
structure BN (k:Nat) (W:World) (tv:Value) (i z d:Int) (v:Value) (p c:Int) (n:Nd):Prop where
 s:DB W k tv (.int .i64 i) (.int .i64 z) (.int .i64 d) v (.int .i64 p) (.int .i64 c)
 x:T.NX W (k+1) n
 r:DB W (k+2) (.slice none 0 0) (.int .i64 0) (.int .i64 0) (.int .i64 0) (.slice none 0 0) (.int .i64 0) (.int .i64 0)
theorem BN.new (W:World) (tv:Value) (i z d:Int) (v:Value) (p q:Int) (n:Nd):BN W.heap.size (((W.alloc (rdO tv i z d v p q)).alloc (T.ndO n)).alloc rdZ) tv i z d v p q n/\Below W.heap.size W (((W.alloc (rdO tv i z d v p q)).alloc (T.ndO n)).alloc rdZ):=by
 have b3:Below ((W.alloc (rdO tv i z d v p q)).alloc (T.ndO n)).heap.size ((W.alloc (rdO tv i z d v p q)).alloc (T.ndO n)) (((W.alloc (rdO tv i z d v p q)).alloc (T.ndO n)).alloc rdZ):=zaa _ _;have b2:Below (W.alloc (rdO tv i z d v p q)).heap.size (W.alloc (rdO tv i z d v p q)) ((W.alloc (rdO tv i z d v p q)).alloc (T.ndO n)):=zaa _ _;refine ⟨⟨((DB.mk (heap_alloc_new W _)).below b2).below b3,?_,⟨?_⟩⟩,(((bR _ _).alloc (nL _) _).alloc (by rw [sA];omega) _).alloc (by rw [sA,sA];omega) _⟩
 ·have h:=heap_alloc_new (W.alloc (rdO tv i z d v p q)) (T.ndO n)
  (try unfold rB at h);rw [sA] at h;exact (T.NX.mk h).same (b3.block _ (by rw [sA,sA];omega))
 ·have h:=heap_alloc_new ((W.alloc (rdO tv i z d v p q)).alloc (T.ndO n)) rdZ
  rw [sA,sA] at h;exact h
theorem BN.later {k:Nat} {W W':World} {tv:Value} {i z d:Int} {v:Value} {p c:Int} {n:Nd} (h:BN k W tv i z d v p c n) (hb:Below W.heap.size W W'):BN k W' tv i z d v p c n:=⟨h.s.below hb,h.x.same (hb.block _ h.x.lt),h.r.below hb⟩
theorem zg9 (At:Option Addr) (nt ct:Nat) (i z d:Int) (A:Option Addr) (l c:Nat) (p q:Int) (n:Nd) (hq:q≠0) (W:World):Calls Tryz.prog 83 #[rdV (.slice At nt ct) i z d (.slice A l c) p q,T.ndG n] W (rB W (rdV (.slice At nt ct) i z d (.slice A l c) p q)):=by
 have HK:Hid (∀W,Cl 28 #[rdV (.slice At nt ct) i z d (.slice A l c) p q] W (rB W (.bool false))):=fun W=>by
  have:=zaO At nt ct i z d A l c p q W;rw [show (q==0)=false from by simpa using hq] at this;exact this
 have HX:=BN.new W (.slice At nt ct) i z d (.slice A l c) p q n;have HBX:=hO HX.1;have HBL:=hO HX.2;clear HX hq;go_enter Tryz.func83,Tryz.ntmps83;go_wp2_with fail;generalize ((W.alloc (rdO (.slice At nt ct) i z d (.slice A l c) p q)).alloc (T.ndO n)).alloc rdZ=w1 at *;refine (HK _).mono ?_;rintro e w2 ⟨rfl,hb⟩;have HX2:=hO (HBX.later hb);have HB2:Hid (Below W.heap.size W w2):=HBL.trans (hb.mono HBL.size);clear hb HK HBX HBL;obtain ⟨k0,k1,k2,k3,k4,k5,k6⟩:=HX2.s.cl;obtain ⟨d0,d1,d2,d3,d4,d5,d6⟩:=zcc HX2.x;obtain ⟨f0,f1,f2,f3,f4,f5,f6⟩:=HX2.r.fzs;obtain ⟨m0,m1,m2,m3,m4,m5,m6⟩:=HX2.r.cl;go_wp2_with fail;refine zaV (s:=4) rfl rfl rfl (zaH HX2.r _ _ _ _ _ _ _) ?_;exact ⟨rfl,zaq HB2 (by omega) _ _ _ _ _ _ _⟩
theorem zkC (At:Option Addr) (nt ct:Nat) (i z d:Int) (A:Option Addr) (l c:Nat) (p q:Int) (n:Nd) (hq:q=0) (hn:n.op=0) (W:World):Calls Tryz.prog 83 #[rdV (.slice At nt ct) i z d (.slice A l c) p q,T.ndG n] W (rB W (rdV (.slice At nt ct) i z d (.slice A l c) p q)):=by
 have HK:Hid (∀W,Cl 28 #[rdV (.slice At nt ct) i z d (.slice A l c) p q] W (rB W (.bool true))):=fun W=>by
  have:=zaO At nt ct i z d A l c p q W;rw [show (q==0)=true from by simpa using hq] at this;exact this
 have HX:=BN.new W (.slice At nt ct) i z d (.slice A l c) p q n;have HBX:=hO HX.1;have HBL:=hO HX.2;have t1:(n.op != 0)=false:=by rw [hn];rfl
 clear HX hq hn;go_enter Tryz.func83,Tryz.ntmps83;go_wp2_with fail;generalize ((W.alloc (rdO (.slice At nt ct) i z d (.slice A l c) p q)).alloc (T.ndO n)).alloc rdZ=w1 at *;refine (HK _).mono ?_;rintro e w2 ⟨rfl,hb⟩;have HX2:=hO (HBX.later hb);have HB2:Hid (Below W.heap.size W w2):=HBL.trans (hb.mono HBL.size);clear hb HK HBX HBL;obtain ⟨k0,k1,k2,k3,k4,k5,k6⟩:=HX2.s.cl;obtain ⟨d0,d1,d2,d3,d4,d5,d6⟩:=zcc HX2.x;obtain ⟨f0,f1,f2,f3,f4,f5,f6⟩:=HX2.r.fzs;obtain ⟨m0,m1,m2,m3,m4,m5,m6⟩:=HX2.r.cl;go_wp2_with fail;refine zaV (s:=4) rfl rfl rfl (zaH HX2.r _ _ _ _ _ _ _) ?_;exact ⟨rfl,zaq HB2 (by omega) _ _ _ _ _ _ _⟩
theorem zha {E:PE} {w0 W:World} {tv:Value} {i d:Nat} {v:Value} {L:List Nd} (h:DS E w0 W tv i d v L) (ii z dd p:Int) (n:Nd) (hn:n.op≠0) (hl:L.length+1<=2000000000000) :
  Calls Tryz.prog 83 #[rdV tv ii z dd v p 0,T.ndG n] W fun e W'=>∃v',e=.returned (rdV tv ii z dd v' p 0)/\DS E w0 W' tv i d v' (L++[n])/\Fd W W' v v':=by
 obtain ⟨i0,hinf,hz0,hz1,hz2⟩:=info_parts T.Tryz.info43;obtain ⟨B,c,hv⟩:=zag h.o;obtain ⟨v0,hv0⟩:∃u,u=v:=⟨_,rfl⟩;subst hv;have HX:=BN.new W tv ii z dd (.slice B L.length c) p 0 n;have HBX:=hO HX.1;have HD:=hO (h.later HX.2);have HF:=hO (Fd.below (.slice B L.length c) HX.2);have hw0:=h.bl.size;obtain ⟨A,ct,htv,_⟩:=h.tk;subst htv;have HK:Hid (∀W,Cl 28 #[rdV (.slice A E.l.length ct) ii z dd (.slice B L.length c) p 0] W (rB W (.bool true))):=fun W=>zaO A E.l.length ct ii z dd B L.length c p 0 W
 have t1:(n.op != 0)=true:=by simpa using hn
 have HN:Hid (T.ndc (L++[n])=T.ndc L++T.ndV n):=by show T.ndc _=_;rw [T.zcf,T.zdO]
 clear h HX hn hv0;go_enter Tryz.func83,Tryz.ntmps83;go_wp2_with fail;generalize ((W.alloc (rdO (.slice A E.l.length ct) ii z dd (.slice B L.length c) p 0)).alloc (T.ndO n)).alloc rdZ=w1 at *;refine (HK _).mono ?_;rintro e w2 ⟨rfl,hb⟩;have HX2:=hO (HBX.later hb);have HD2:=hO (HD.later hb);have HF2:Hid (Fd W w2 (.slice B L.length c) (.slice B L.length c)):=HF.trans (Fd.below _ hb);clear hb HK HBX HD HF;obtain ⟨k0,k1,k2,k3,k4,k5,k6⟩:=HX2.s.cl;obtain ⟨d0,d1,d2,d3,d4,d5,d6⟩:=zcc HX2.x;have g4:=HX2.s.fz 4;have hO:=HD2.o;have hs2:=HD2.bl.size;go_wp2_with (at_builtin;refine wpList_append_lies _ rfl _ _ 34 rfl w0.heap.size 51 i0 _ 7 64 Tryz.underlying34 hinf hz0 hz1 hz2 rfl (by decide) _ _ _ rfl (hO.alloc _) ⟨w2.heap.size,0,none⟩ 1 1 (T.ndV n) rfl rfl ?c1 ?c2 (by decide) ?c3 ?c4 ?c5 (w2.heap.size+1) (by simp) ?_)
 case c1=>exact World.news_of_block (cs:=#[.int .i64 n.op,.int .i64 n.nn,.string n.tx,.int .u64 n.s0,.int .u64 n.s1,.int .u64 n.s2,.int .u64 n.s3]) (t:=51) (fr:=(0,0)) (heap_alloc_new w2 _)
 case c2=>intro u hu;unfold T.ndV at hu;simp only [List.mem_cons,List.not_mem_nil,or_false] at hu;rcases hu with rfl | rfl | rfl | rfl | rfl | rfl | rfl <;> rfl
 case c3=>unfold maxLen;omega
 case c4=>omega
 case c5=>rw [sA];omega
 intro g3 cap w3 hown hgrow hat hlt3;have hO1:=hO.alloc (.cells #[.int .i64 n.op,.int .i64 n.nn,.string n.tx,.int .u64 n.s0,.int .u64 n.s1,.int .u64 n.s2,.int .u64 n.s3] 51);have hbx:=zaa w2 (.cells #[.int .i64 n.op,.int .i64 n.nn,.string n.tx,.int .u64 n.s0,.int .u64 n.s1,.int .u64 n.s2,.int .u64 n.s3] 51);have s1:=HX2.s.below hbx;have r1:=HX2.r.below hbx;have HS3:Hid (DB w3 W.heap.size (.slice A E.l.length ct) (.int .i64 ii) (.int .i64 z) (.int .i64 dd) (.slice B L.length c) (.int .i64 p) (.int .i64 0)):=s1.same (hgrow.block _ s1.lt (fun e=>s1.ne hO1 (by decide) e.symm rfl));have HR3:Hid (DB w3 (W.heap.size+2) (.slice none 0 0) (.int .i64 0) (.int .i64 0) (.int .i64 0) (.slice none 0 0) (.int .i64 0) (.int .i64 0)):=r1.same (hgrow.block _ r1.lt (fun e=>r1.ne hO1 (by decide) e.symm rfl));have HD3:Hid (DS E w0 w3 (.slice A E.l.length ct) i d (.slice (some ⟨g3,0,none⟩) (L.length+1) cap) (L++[n])):=(HD2.later hbx).grow hgrow (by rw [HN.out,lA];exact hown);have HF3:Hid (Fd W w3 (.slice B L.length c) (.slice (some ⟨g3,0,none⟩) (L.length+1) cap)):=(HF2.trans (Fd.below _ hbx)).trans (Fd.grow hgrow (by rw [sA];exact hat));clear hO1 hbx s1 r1 hown hgrow hat hlt3 hO HX2 HD2 HF2 k0 k1 k2 k3 k4 k5 k6 d0 d1 d2 d3 d4 d5 d6 g4 hs2;obtain ⟨k0,k1,k2,k3,k4,k5,k6⟩:=HS3.cl;obtain ⟨f0,f1,f2,f3,f4,f5,f6⟩:=HR3.fzs;obtain ⟨m0,m1,m2,m3,m4,m5,m6⟩:=HR3.cl;have g4:=HS3.fz 4;go_wp2_with fail
 have hr4:DB (w3.setCell ⟨W.heap.size,4,none⟩ (.slice (some ⟨g3,0,none⟩) (L.length+1) cap)) (W.heap.size+2) (.slice none 0 0) (.int .i64 0) (.int .i64 0) (.int .i64 0) (.slice none 0 0) (.int .i64 0) (.int .i64 0):=HR3.same (bS _ _ _ _ (by show W.heap.size+2≠W.heap.size;omega));refine zaV (s:=4) rfl rfl rfl (zaH hr4 _ _ _ _ _ _ _) ?_;exact ⟨_,rfl,(HD3.set hw0 HS3.out 4 _).st7 (by omega) hr4 _ _ _ _ _ _ _,(HF3.set (nL _) 4 _).st7 (by omega) _ _ _ _ _ _ _⟩
theorem zkD (At:Option Addr) (nt ct:Nat) (i z d:Int) (A:Option Addr) (l c:Nat) (p q x:Int) (hq:q≠0) (W:World):Calls Tryz.prog 187 #[rdV (.slice At nt ct) i z d (.slice A l c) p q,.int .i64 x] W (rB W (rdV (.slice At nt ct) i z d (.slice A l c) p q)):=by
 have HK:Hid (∀W,Cl 28 #[rdV (.slice At nt ct) i z d (.slice A l c) p q] W (rB W (.bool false))):=fun W=>by
  have:=zaO At nt ct i z d A l c p q W;rw [show (q==0)=false from by simpa using hq] at this;exact this
 have HF:Hid (∀W,Cl 32 #[rdV (.slice At nt ct) i z d (.slice A l c) p q,.int .i64 60] W (rB W (rdV (.slice At nt ct) i z d (.slice A l c) p q))):=fun W=>zhP At nt ct i z d A l c p q 60 hq W
 have HX:=BX.new W (.slice At nt ct) i z d (.slice A l c) p q;have HBX:=hO HX.1;have HBL:=hO HX.2;clear HX hq;go_enter Tryz.func187,Tryz.ntmps187;go_wp2_with fail;generalize (W.alloc (rdO (.slice At nt ct) i z d (.slice A l c) p q)).alloc rdZ=w1 at *;refine (HK _).mono ?_;rintro e w2 ⟨rfl,hb⟩;have HX2:=hO (HBX.later hb);have HB2:Hid (Below W.heap.size W w2):=HBL.trans (hb.mono HBL.size);clear hb HK HBX HBL;obtain ⟨k0,k1,k2,k3,k4,k5,k6⟩:=HX2.s.cl;go_wp2_with fail;refine (HF _).mono ?_;rintro e w3 ⟨rfl,hb⟩;have HX3:=hO (HX2.later hb);have HB3:Hid (Below W.heap.size W w3):=HB2.trans (hb.mono HB2.size);clear hb HF HX2 HB2 k0 k1 k2 k3 k4 k5 k6;obtain ⟨f0,f1,f2,f3,f4,f5,f6⟩:=HX3.r.fzs;obtain ⟨m0,m1,m2,m3,m4,m5,m6⟩:=HX3.r.cl;go_wp2_with fail;refine zaV (s:=4) rfl rfl rfl (zaH HX3.r _ _ _ _ _ _ _) ?_;exact ⟨rfl,zaq HB3 (by omega) _ _ _ _ _ _ _⟩
theorem zkE {E:PE} {w0 W:World} {tv:Value} {i d:Nat} {v:Value} {L:List Nd} (h:DS E w0 W tv i d v L) (z:Nat) (dd p x:Int) (hz:E.l.length<=1000000) (hx:kdA E i=x) (hi:i<E.l.length) :
  Calls Tryz.prog 187 #[rdV tv i z dd v p 0,.int .i64 x] W (rB W (rdV tv (i+1:Nat) z dd v p 0)):=by
 obtain ⟨B,n,hv⟩:=zag h.o;subst hv;have HX:=BX.new W tv i z dd (.slice B L.length n) p 0;have HBX:=hO HX.1;have HBL:=hO HX.2;have HD:Hid (DS E w0 ((W.alloc (rdO tv i z dd (.slice B L.length n) p 0)).alloc rdZ) tv i d (.slice B L.length n) L):=h.later HX.2;have HKd:Hid (∀W,DS E w0 W tv i d (.slice B L.length n) L->Cl 53 #[rdV tv i z dd (.slice B L.length n) p 0,.int .i64 0] W (rB W (.int .i64 (kdA E i)))):=fun W h=>za3 h z dd p 0 0 i (by omega) (by omega) hz
 have t1:(kdA E i != x)=false:=by rw [hx];simp
 obtain ⟨j,hj⟩:∃j,j=i+1:=⟨_,rfl⟩;rw [<-hj];have u1:IntKind.i64.wrap ((i:Int)+1)=(j:Int):=by rw [wI];omega
 obtain ⟨A,ct,htv,_⟩:=h.tk;subst htv;have HK:Hid (∀W,Cl 28 #[rdV (.slice A E.l.length ct) i z dd (.slice B L.length n) p 0] W (rB W (.bool true))):=fun W=>zaO A E.l.length ct i z dd B L.length n p 0 W
 generalize kdA E i=kk at *;clear h HX hx hz hi hj;go_enter Tryz.func187,Tryz.ntmps187;go_wp2_with fail;generalize (W.alloc (rdO (.slice A E.l.length ct) i z dd (.slice B L.length n) p 0)).alloc rdZ=w1 at *;refine (HK _).mono ?_;rintro e w2 ⟨rfl,hb⟩;have HX2:=hO (HBX.later hb);have HB2:Hid (Below W.heap.size W w2):=HBL.trans (hb.mono HBL.size);have HD2:=hO (HD.later hb);clear hb HK HBX HBL HD;obtain ⟨k0,k1,k2,k3,k4,k5,k6⟩:=HX2.s.cl;go_wp2_with fail;refine (HKd _ HD2.out).mono ?_;rintro e w3 ⟨rfl,hb⟩;have HX3:=hO (HX2.later hb);have HB3:Hid (Below W.heap.size W w3):=HB2.trans (hb.mono HB2.size);have HD3:=hO (HD2.later hb);clear hb HKd HX2 HB2 HD2 k0 k1 k2 k3 k4 k5 k6;obtain ⟨k0,k1,k2,k3,k4,k5,k6⟩:=HX3.s.cl;obtain ⟨f0,f1,f2,f3,f4,f5,f6⟩:=HX3.r.fzs;obtain ⟨m0,m1,m2,m3,m4,m5,m6⟩:=HX3.r.cl;have g1:=HX3.s.fz 1;go_wp2_with fail;refine zaV (s:=4) rfl rfl rfl (zaH (HX3.s1 _).r _ _ _ _ _ _ _) ?_;exact ⟨rfl,zaq (HB3.setCell (p:=⟨W.heap.size,1,none⟩) (nL _) _) (by omega) _ _ _ _ _ _ _⟩
theorem ziu {E:PE} {w0 W:World} {tv:Value} {i d:Nat} {v:Value} {L:List Nd} (h:DS E w0 W tv i d v L) (z:Nat) (dd p x:Int) (hz:E.l.length<=1000000) (hx:¬kdA E i=x) :
  Calls Tryz.prog 187 #[rdV tv i z dd v p 0,.int .i64 x] W (rB W (rdV tv i z dd v (plA E z i) 60)):=by
 obtain ⟨B,n,hv⟩:=zag h.o;subst hv;have HX:=BX.new W tv i z dd (.slice B L.length n) p 0;have HBX:=hO HX.1;have HBL:=hO HX.2;have HD:Hid (DS E w0 ((W.alloc (rdO tv i z dd (.slice B L.length n) p 0)).alloc rdZ) tv i d (.slice B L.length n) L):=h.later HX.2;have HKd:Hid (∀W,DS E w0 W tv i d (.slice B L.length n) L->Cl 53 #[rdV tv i z dd (.slice B L.length n) p 0,.int .i64 0] W (rB W (.int .i64 (kdA E i)))):=fun W h=>za3 h z dd p 0 0 i (by omega) (by omega) hz
 have t1:(kdA E i != x)=true:=by simpa using hx
 have HF:Hid (∀W,DS E w0 W tv i d (.slice B L.length n) L->Cl 32 #[rdV tv i z dd (.slice B L.length n) p 0,.int .i64 60] W (rB W (rdV tv i z dd (.slice B L.length n) (plA E z i) 60))):=fun W h=>zbB h z dd p 60
 generalize plA E z i=pl at *;obtain ⟨A,ct,htv,_⟩:=h.tk;subst htv;have HK:Hid (∀W,Cl 28 #[rdV (.slice A E.l.length ct) i z dd (.slice B L.length n) p 0] W (rB W (.bool true))):=fun W=>zaO A E.l.length ct i z dd B L.length n p 0 W
 generalize kdA E i=kk at *;clear h HX hx hz;go_enter Tryz.func187,Tryz.ntmps187;go_wp2_with fail;generalize (W.alloc (rdO (.slice A E.l.length ct) i z dd (.slice B L.length n) p 0)).alloc rdZ=w1 at *;refine (HK _).mono ?_;rintro e w2 ⟨rfl,hb⟩;have HX2:=hO (HBX.later hb);have HB2:Hid (Below W.heap.size W w2):=HBL.trans (hb.mono HBL.size);have HD2:=hO (HD.later hb);clear hb HK HBX HBL HD;obtain ⟨k0,k1,k2,k3,k4,k5,k6⟩:=HX2.s.cl;go_wp2_with fail;refine (HKd _ HD2.out).mono ?_;rintro e w3 ⟨rfl,hb⟩;have HX3:=hO (HX2.later hb);have HB3:Hid (Below W.heap.size W w3):=HB2.trans (hb.mono HB2.size);have HD3:=hO (HD2.later hb);clear hb HKd HX2 HB2 HD2 k0 k1 k2 k3 k4 k5 k6;obtain ⟨k0,k1,k2,k3,k4,k5,k6⟩:=HX3.s.cl;go_wp2_with fail;refine (HF _ HD3.out).mono ?_;rintro e w4 ⟨rfl,hb⟩;have HX4:=hO (HX3.later hb);have HB4:Hid (Below W.heap.size W w4):=HB3.trans (hb.mono HB3.size);clear hb HF HX3 HB3 HD3 k0 k1 k2 k3 k4 k5 k6;obtain ⟨f0,f1,f2,f3,f4,f5,f6⟩:=HX4.r.fzs;obtain ⟨m0,m1,m2,m3,m4,m5,m6⟩:=HX4.r.cl;go_wp2_with fail;refine zaV (s:=4) rfl rfl rfl (zaH HX4.r _ _ _ _ _ _ _) ?_;exact ⟨rfl,zaq HB4 (by omega) _ _ _ _ _ _ _⟩
theorem bgK_t {k:Int} (h:bgK k=true):k=8∨k=9∨k=2∨k=3∨k=28∨k=5∨k=18∨k=29∨k=30∨k=16∨k=19∨k=21∨k=23∨k=25:=by
 unfold bgK at h;simp only [Bool.or_eq_true,beq_iff_eq] at h;omega
theorem bgK_f {k:Int} (h:bgK k=false):(k==8)=false/\(k==9)=false/\(k==2)=false/\(k==3)=false/\(k==28)=false/\(k==5)=false/\(k==18)=false/\(k==29)=false/\(k==30)=false/\(k==16)=false/\(k==19)=false/\(k==21)=false/\(k==23)=false/\(k==25)=false:=by
 unfold bgK at h;simp only [Bool.or_eq_false_iff] at h;obtain ⟨⟨⟨⟨⟨⟨⟨⟨⟨⟨⟨⟨⟨b1,b2⟩,b3⟩,b4⟩,b5⟩,b6⟩,b7⟩,b8⟩,b9⟩,b10⟩,b11⟩,b12⟩,b13⟩,b14⟩:=h;exact ⟨b1,b2,b3,b4,b5,b6,b7,b8,b9,b10,b11,b12,b13,b14⟩
theorem zcy {E:PE} {w0 W:World} {tv:Value} {i d:Nat} {v:Value} {L:List Nd} (h:DS E w0 W tv i d v L) (z:Nat) (dd p:Int) (hz:E.l.length<=1000000) :
  Calls Tryz.prog 112 #[rdV tv i z dd v p 0] W (rB W (.bool (bgn E i))):=by
 obtain ⟨B,n,hv⟩:=zag h.o;subst hv;have HD:Hid (DS E w0 (W.alloc (rdO tv i z dd (.slice B L.length n) p 0)) tv i d (.slice B L.length n) L):=h.later (zaa _ _);have HX:Hid (DB (W.alloc (rdO tv i z dd (.slice B L.length n) p 0)) W.heap.size tv (.int .i64 i) (.int .i64 z) (.int .i64 dd) (.slice B L.length n) (.int .i64 p) (.int .i64 0)):=⟨heap_alloc_new W _⟩;have HBL:Hid (Below W.heap.size W (W.alloc (rdO tv i z dd (.slice B L.length n) p 0))):=zaa _ _;have HK:Hid (∀W,DS E w0 W tv i d (.slice B L.length n) L->Cl 53 #[rdV tv i z dd (.slice B L.length n) p 0,.int .i64 0] W (rB W (.int .i64 (kdA E i)))):=fun W h=>za3 h z dd p 0 0 i (by omega) (by omega) hz
 have HK1:Hid (∀W,DS E w0 W tv i d (.slice B L.length n) L->Cl 53 #[rdV tv i z dd (.slice B L.length n) p 0,.int .i64 1] W (rB W (.int .i64 (kdA E (i+1))))):=fun W h=>za3 h z dd p 0 1 (i+1) (by omega) (by omega) hz
 obtain ⟨A,ct,htv,_⟩:=h.tk;subst htv;unfold bgn;generalize kdA E i=kk at *;generalize kdA E (i+1)=k2 at *;clear h hz;go_enter Tryz.func112,Tryz.ntmps112;go_wp2_with fail;generalize W.alloc (rdO (.slice A E.l.length ct) i z dd (.slice B L.length n) p 0)=w1 at *;refine (HK _ HD.out).mono ?_;rintro e w2 ⟨rfl,hb⟩;have HX2:=hO (HX.below hb);have HB2:Hid (Below W.heap.size W w2):=HBL.trans (hb.mono HBL.size);have HD2:=hO (HD.later hb);clear hb HK HBL HD HX
 cases hg:bgK kk with
 | true =>
  have hc:=bgK_t hg;clear HK1 HD2 HX2
  rcases hc with rfl | rfl | rfl | rfl | rfl | rfl | rfl | rfl | rfl | rfl | rfl | rfl | rfl | rfl
  all_goals
   clear hg;go_wp2_with fail;go_ret
   exact ⟨rfl,HB2.out⟩
 | false =>
  obtain ⟨b1,b2,b3,b4,b5,b6,b7,b8,b9,b10,b11,b12,b13,b14⟩:=bgK_f hg;obtain ⟨k0,k1,k2',k3,k4,k5,k6⟩:=HX2.cl;have HG:Hid (bgK kk=false):=hg;clear hg;by_cases h1:kk=1
  ·subst h1
   clear b1 b2 b3 b4 b5 b6 b7 b8 b9 b10 b11 b12 b13 b14;go_wp2_with fail;refine (HK1 _ HD2.out).mono ?_;rintro e w3 ⟨rfl,hb⟩;have HB3:Hid (Below W.heap.size W w3):=HB2.trans (hb.mono HB2.size);clear hb HK1 HB2 HD2 k0 k1 k2' k3 k4 k5 k6;go_wp2_with fail;go_ret
   exact ⟨by simp [bne,show bgK 1=false from rfl],HB3.out⟩
  ·have t1:(kk==1)=false:=bF h1
   clear h1 HK1 HD2 k0 k1 k2' k3 k4 k5 k6;go_wp2_with fail;go_ret
   exact ⟨by rw [HG.out,t1];rfl,HB2.out⟩
theorem zco {E:PE} {w0 W:World} {tv:Value} {i d:Nat} {v:Value} {L:List Nd} (h:DS E w0 W tv i d v L) (z:Nat) (dd p:Int) (hz:E.l.length<=1000000) :
  Calls Tryz.prog 31 #[rdV tv i z dd v p 0] W (rB W (.bool (ruB E i))):=by
 obtain ⟨B,n,hv⟩:=zag h.o;subst hv;have HD:Hid (DS E w0 (W.alloc (rdO tv i z dd (.slice B L.length n) p 0)) tv i d (.slice B L.length n) L):=h.later (zaa _ _);have HX:Hid (DB (W.alloc (rdO tv i z dd (.slice B L.length n) p 0)) W.heap.size tv (.int .i64 i) (.int .i64 z) (.int .i64 dd) (.slice B L.length n) (.int .i64 p) (.int .i64 0)):=⟨heap_alloc_new W _⟩;have HBL:Hid (Below W.heap.size W (W.alloc (rdO tv i z dd (.slice B L.length n) p 0))):=zaa _ _;have HK:Hid (∀W,DS E w0 W tv i d (.slice B L.length n) L->Cl 53 #[rdV tv i z dd (.slice B L.length n) p 0,.int .i64 0] W (rB W (.int .i64 (kdA E i)))):=fun W h=>za3 h z dd p 0 0 i (by omega) (by omega) hz
 have HK1:Hid (∀W,DS E w0 W tv i d (.slice B L.length n) L->Cl 53 #[rdV tv i z dd (.slice B L.length n) p 0,.int .i64 1] W (rB W (.int .i64 (kdA E (i+1))))):=fun W h=>za3 h z dd p 0 1 (i+1) (by omega) (by omega) hz
 obtain ⟨A,ct,htv,_⟩:=h.tk;subst htv;unfold ruB;generalize kdA E i=kk at *;generalize kdA E (i+1)=k2 at *;clear h hz;go_enter Tryz.func31,Tryz.ntmps31;go_wp2_with fail;generalize W.alloc (rdO (.slice A E.l.length ct) i z dd (.slice B L.length n) p 0)=w1 at *;refine (HK _ HD.out).mono ?_;rintro e w2 ⟨rfl,hb⟩;have HX2:=hO (HX.below hb);have HB2:Hid (Below W.heap.size W w2):=HBL.trans (hb.mono HBL.size);have HD2:=hO (HD.later hb);clear hb HK HBL HD HX;obtain ⟨k0,k1,k2',k3,k4,k5,k6⟩:=HX2.cl
 cases t1:(kk==1) with
 | true =>
  go_wp2_with fail;refine (HK1 _ HD2.out).mono ?_;rintro e w3 ⟨rfl,hb⟩;have HB3:Hid (Below W.heap.size W w3):=HB2.trans (hb.mono HB2.size);clear hb HK1 HB2 HD2 k0 k1 k2' k3 k4 k5 k6;go_wp2_with fail;go_ret
  exact ⟨by rw [t1];rfl,HB3.out⟩
 | false =>
  clear HK1 HD2 k0 k1 k2' k3 k4 k5 k6;go_wp2_with fail;go_ret
  exact ⟨by rw [t1];rfl,HB2.out⟩
def PoD (E:PE) (z:Nat) (w0:World) (tv:Value) (d:Nat) (W:World) (v:Value) (L:List Nd) (r:PR) (e:Ending) (W':World):Prop:=match r with
 | .inl p=>∃v',e=.returned (rdV tv p.1 z d v' 0 0)/\DS E w0 W' tv p.1 d v' (L++p.2)/\Fd W W' v v'
 | .inr q=>∃(i' d':Int) (A:Option Addr) (n c:Nat),e=.returned (rdV tv i' z d' (.slice A n c) (plA E z q.1) q.2)/\Below w0.heap.size w0 W'/\Fd W W' v (.slice none 0 0)
def Cd (F:Nat) (E:PE) (z:Nat) (w0:World) (tv:Value) (i d:Nat) (r:PR):Prop :=
 ∀(W:World) (v:Value) (L:List Nd),DS E w0 W tv i d v L->L.length<=10027010 * i->Calls Tryz.prog F #[rdV tv i z d v 0 0] W fun e W'=>PoD E z w0 tv d W v L r e W'
def mD (k n:Nat) (W:World):Nat:=match W.cell? ⟨k,6,none⟩,W.cell? ⟨k,1,none⟩ with
 | some (.int .i64 c),some (.int .i64 i)=>if c=0 then n+1 - i.toNat else 0
 | _,_=>0
theorem zdU {k n:Nat} {W:World} {tv:Value} {i:Nat} {z d:Int} {v:Value} {p:Int} (h:BX k W tv i z d v p 0):mD k n W=n+1 - i:=by
 obtain ⟨_,k1,_,_,_,_,k6⟩:=h.s.cl;unfold mD;rw [k1,k6];rfl
theorem mD_no {k n:Nat} {W:World} {tv:Value} {i z d:Int} {v:Value} {p c:Int} (h:BX k W tv i z d v p c) (hc:c≠0):mD k n W=0:=by
 obtain ⟨_,k1,_,_,_,_,k6⟩:=h.s.cl;unfold mD;rw [k1,k6]
 show (if c=0 then _ else _)=_
 rw [iN hc]
def SvD (E:PE) (z:Nat) (w0:World) (tv:Value) (i d:Nat) (W:World) (v0:Value) (L:List Nd) (gl:Nat) (R0:PR) (wr:World) (i3 d3:Int) (v:Value) (l1:Nat) (p3 q3:Int):Prop :=
 (∃(a:Nat) (M:List Nd),q3=0/\p3=0/\i3=a/\d3=d/\l1=(L++M).length/\i<a/\a<=E.l.length/\(L++M).length<=10027010 * a/\DS E w0 wr tv a d v (L++M)/\Fd W wr v0 v/\R0=ahd M (gN E gl a d))∨∃q,p3=plA E z q.1/\q3=q.2/\q.2≠0/\R0=.inr q/\Below w0.heap.size w0 wr/\Fd W wr v0 (.slice none 0 0)
theorem Fd.weak {W W':World} {v v':Value} (h:Fd W W' v v'):Fd W W' v (.slice none 0 0):=⟨h.size,h.block,fun k q=>by cases q⟩
theorem zhQ {E:PE} (hE:OkE E) {z:Nat} {w0:World} {tv:Value} {i d:Nat} (HS0:∀a,i<=a->a<=E.l.length->Cd 82 E z w0 tv a d (gN E 2 a d)):Cd 51 E z w0 tv i d (gN E 0 i d):=by
 intro W v L h hL;have hi:=h.hi;have hlen:=hE.len;have hz:=hE.z;have HE:=hO hE;have HS:Hid (∀a,i<=a->a<=E.l.length->Cd 82 E z w0 tv a d (gN E 2 a d)):=HS0;have HG:=hO (g0 E i d hi);obtain ⟨B,n,hv⟩:=zag h.o;subst hv;have HX:=BX.new W tv i z d (.slice B L.length n) 0 0;have HBX:=hO HX.1;have HD:Hid (DS E w0 ((W.alloc (rdO tv i z d (.slice B L.length n) 0 0)).alloc rdZ) tv i d (.slice B L.length n) L):=h.later HX.2;have HF:Hid (Fd W ((W.alloc (rdO tv i z d (.slice B L.length n) 0 0)).alloc rdZ) (.slice B L.length n) (.slice B L.length n)):=Fd.below _ HX.2;have HC:Hid (∀W,DS E w0 W tv i d (.slice B L.length n) L->Cl 82 #[rdV tv i z d (.slice B L.length n) 0 0] W fun e W'=>PoD E z w0 tv d W (.slice B L.length n) L (gN E 2 i d) e W'):=fun W h=>HS0 i (nL _) hi W _ L h hL
 have hw0:=h.bl.size;obtain ⟨A,ct,htv,_⟩:=h.tk;subst htv;have HO:Hid (∀(i d:Int) (A1:Option Addr) (l1 c1:Nat) (p q:Int) W,Cl 28 #[rdV (.slice A E.l.length ct) i z d (.slice A1 l1 c1) p q] W (rB W (.bool (q==0)))):=fun i d A1 l1 c1 p q W=>zaO A E.l.length ct i z d A1 l1 c1 p q W
 have HI:Hid (∀R0:PR,∀q,R0=.inr q->∀W',Below w0.heap.size w0 W'->Fd W W' (.slice B L.length n) (.slice none 0 0)->∀(i' d':Int) (A1:Option Addr) (l1 c1:Nat),PoD E z w0 (.slice A E.l.length ct) d W (.slice B L.length n) L R0 (.returned (rdV (.slice A E.l.length ct) i' z d' (.slice A1 l1 c1) (plA E z q.1) q.2)) W'):=fun R0 q hq W' h1 h2 i' d' A1 l1 c1=>by rw [hq];exact ⟨i',d',A1,l1,c1,rfl,h1,h2⟩
 generalize hR0:gN E 0 i d=R0 at *;clear h hE HS0 HX hR0;go_enter Tryz.func51,Tryz.ntmps51;go_wp2_with fail;generalize (W.alloc (rdO (.slice A E.l.length ct) i z d (.slice B L.length n) 0 0)).alloc rdZ=w1 at *;refine (HO _ _ _ _ _ _ _ _).mono ?_;rintro e w2 ⟨rfl,hb⟩;have HX2:=hO (HBX.later hb);have HD2:=hO (HD.later hb);have HF2:Hid (Fd W w2 (.slice B L.length n) (.slice B L.length n)):=HF.trans (Fd.below _ hb);clear hb HBX HD HF;obtain ⟨k0,k1,k2,k3,k4,k5,k6⟩:=HX2.s.cl;go_wp2_with fail;refine (HC _ HD2.out).mono ?_;intro e w3 hp;have HIv:Hid (∃(i3 d3:Int) (A1:Option Addr) (l1 c1:Nat) (p3 q3:Int),e=.returned (rdV (.slice A E.l.length ct) i3 z d3 (.slice A1 l1 c1) p3 q3)/\BX W.heap.size w3 (.slice A E.l.length ct) i z d (.slice B L.length n) 0 0/\SvD E z w0 (.slice A E.l.length ct) i d W (.slice B L.length n) L 1 R0 w3 i3 d3 (.slice A1 l1 c1) l1 p3 q3):=by
  show _
  cases hr:gN E 2 i d with
  | inr q =>
   rw [hr] at hp;obtain ⟨i',d',A1,l1,c1,rfl,h1,h2⟩:=hp;have hV:R0=.inr q:=by rw [HG.out,hr];rfl
   have hq:=(zbx hi (by omega) hr).2;exact ⟨i',d',A1,l1,c1,_,_,rfl,HX2.fd HD2.o h2,.inr ⟨q,rfl,rfl,by omega,hV,h1,HF2.trans h2⟩⟩
  | inl p =>
   obtain ⟨a,ns⟩:=p;rw [hr] at hp;obtain ⟨v',rfl,h1,h2⟩:=hp;have hadv:=zbM hi (by omega) hr;have hlenN:=(zbU HE.rl hi (by omega) hr).1 (by omega);obtain ⟨A1,c1,hv1⟩:=zag h1.o;dsimp only at hv1 h1;subst hv1;exact ⟨_,_,A1,_,c1,_,_,rfl,HX2.fd HD2.o h2,.inl ⟨a,ns,rfl,rfl,rfl,rfl,rfl,hadv.2.2 (by omega),hadv.2.1,by rw [lA];omega,h1,HF2.trans h2,by rw [HG.out,hr];rfl⟩⟩
 clear hp HC HX2 HD2 HF2 HG;obtain ⟨i3,d3,A1,l1,c1,p3,q3,rfl,hX3,hS3⟩:=HIv.out;clear HIv;have HX3:=hO hX3;have HS3:=hO hS3;clear hX3 hS3;obtain ⟨k0,k1,k2,k3,k4,k5,k6⟩:=HX3.s.cl;obtain ⟨f0,f1,f2,f3,f4,f5,f6⟩:=HX3.s.fzs;go_wp2_with fail;have HIn:Hid (BX W.heap.size (st7 w3 W.heap.size (.slice A E.l.length ct) (.int .i64 i3) (.int .i64 z) (.int .i64 d3) (.slice A1 l1 c1) (.int .i64 p3) (.int .i64 q3)) (.slice A E.l.length ct) i3 z d3 (.slice A1 l1 c1) p3 q3/\SvD E z w0 (.slice A E.l.length ct) i d W (.slice B L.length n) L 1 R0 (st7 w3 W.heap.size (.slice A E.l.length ct) (.int .i64 i3) (.int .i64 z) (.int .i64 d3) (.slice A1 l1 c1) (.int .i64 p3) (.int .i64 q3)) i3 d3 (.slice A1 l1 c1) l1 p3 q3):=by
  refine ⟨HX3.st _ _ _ _ _ _ _,?_⟩
  rcases HS3.out with ⟨a,M,e1,e2,e3,e4,e5,e6,e7,e8,e9,e10,e11⟩ | ⟨q,e1,e2,e3,e4,e5,e6⟩
  ·exact .inl ⟨a,M,e1,e2,e3,e4,e5,e6,e7,e8,e9.st7 hw0 HX3.s _ _ _ _ _ _ _,e10.st7 (nL _) _ _ _ _ _ _ _,e11⟩
  ·exact .inr ⟨q,e1,e2,e3,e4,zaq e5 hw0 _ _ _ _ _ _ _,e6.st7 (nL _) _ _ _ _ _ _ _⟩
 clear HX3 HS3 k0 k1 k2 k3 k4 k5 k6 f0 f1 f2 f3 f4 f5 f6;go_loopw [9] (fun _ wr=>∃(i3 d3:Int) (A1:Option Addr) (l1 c1:Nat) (p3 q3:Int),Hid (BX W.heap.size wr (.slice A E.l.length ct) i3 z d3 (.slice A1 l1 c1) p3 q3/\SvD E z w0 (.slice A E.l.length ct) i d W (.slice B L.length n) L 1 R0 wr i3 d3 (.slice A1 l1 c1) l1 p3 q3)) (fun _ wr=>mD W.heap.size E.l.length wr)
 case atStart=>exact ⟨_,_,_,_,_,_,_,HIn⟩
 case round =>
  obtain ⟨i3,d3,A1,l1,c1,p3,q3,HW⟩:=hrel;clear HIn
  rcases HW.out with ⟨hX,⟨a,M,rfl,rfl,rfl,rfl,hl1,ha1,ha2,hlm,hD,hF,hR⟩ | ⟨q,rfl,rfl,hq,hR,hB,hF⟩⟩
  ·have HX4:=hO hX
   have HD4:Hid (DS E w0 wr (.slice A E.l.length ct) a d (.slice A1 l1 c1) (L++M)/\Fd W wr (.slice B L.length n) (.slice A1 l1 c1)):=⟨hD,hF⟩;have HM:Hid (mD W.heap.size E.l.length wr=E.l.length+1 - a):=zdU hX;have HR4:Hid (R0=ahd M (gN E 1 a d)):=hR;have HGa:=hO (g1 E a d ha2);have HOk:Hid (∀_:Unit,Cl 28 #[rdV (.slice A E.l.length ct) a z d (.slice A1 l1 c1) 0 0] wr (rB wr (.bool true))):=fun _=>HO a d A1 l1 c1 0 0 wr
   have HCo:Hid (∀W2,DS E w0 W2 (.slice A E.l.length ct) a d (.slice A1 l1 c1) (L++M)->Cl 53 #[rdV (.slice A E.l.length ct) a z d (.slice A1 l1 c1) 0 0,.int .i64 0] W2 (rB W2 (.int .i64 (kdA E a)))):=fun W2 h=>za3 h z d 0 0 0 a (by omega) (by omega) hz
   have HL1:Hid (l1=(L++M).length/\(L++M).length<=10027010 * a):=⟨hl1,hlm⟩;clear HW hX hD hF hR HO hl1 hlm;obtain ⟨k0,k1,k2,k3,k4,k5,k6⟩:=HX4.s.cl;go_wp2_with fail;refine (HOk ()).mono ?_;rintro e w5 ⟨rfl,hb⟩;have HX5:=hO (HX4.later hb);have HD5:Hid (DS E w0 w5 (.slice A E.l.length ct) a d (.slice A1 l1 c1) (L++M)/\Fd W w5 (.slice B L.length n) (.slice A1 l1 c1)):=⟨HD4.1.later hb,HD4.2.trans (Fd.below _ hb)⟩;clear hb HOk HX4 HD4 k0 k1 k2 k3 k4 k5 k6;obtain ⟨k0,k1,k2,k3,k4,k5,k6⟩:=HX5.s.cl;go_wp2_with fail;refine (HCo _ HD5.1).mono ?_;rintro e w6 ⟨rfl,hb⟩;have HX6:=hO (HX5.later hb);have HD6:Hid (DS E w0 w6 (.slice A E.l.length ct) a d (.slice A1 l1 c1) (L++M)/\Fd W w6 (.slice B L.length n) (.slice A1 l1 c1)):=⟨HD5.1.later hb,HD5.2.trans (Fd.below _ hb)⟩;clear hb HCo HX5 HD5 k0 k1 k2 k3 k4 k5 k6;by_cases hkk:kdA E a=7
   ·have hlt:a<E.l.length:=za8 (by omega)
    have t1:(kdA E a==7)=true:=by rw [hkk];rfl
    obtain ⟨j,hj⟩:∃j,j=a+1:=⟨_,rfl⟩;have u1:IntKind.i64.wrap ((a:Int)+1)=((a+1:Nat):Int):=by rw [wI];omega
    rw [<-hj] at u1;have hjl:j<=E.l.length:=by omega
    have HJ:Hid (a<=j/\j<=a+1):=⟨by omega,by omega⟩;have HSa:Hid (∀W2,DS E w0 W2 (.slice A E.l.length ct) j d (.slice A1 l1 c1) (L++M)->Cl 82 #[rdV (.slice A E.l.length ct) j z d (.slice A1 l1 c1) 0 0] W2 fun e W'=>PoD E z w0 (.slice A E.l.length ct) d W2 (.slice A1 l1 c1) (L++M) (gN E 2 j d) e W'):=fun W2 h=>HS j (by omega) hjl W2 _ _ h (Nat.le_trans HL1.2 (Nat.mul_le_mul_left _ HJ.1))
    have HX7:Hid (BX W.heap.size (w6.setCell ⟨W.heap.size,1,none⟩ (.int .i64 j)) (.slice A E.l.length ct) j z d (.slice A1 l1 c1) 0 0):=HX6.s1 j;have HD7:Hid (DS E w0 (w6.setCell ⟨W.heap.size,1,none⟩ (.int .i64 j)) (.slice A E.l.length ct) j d (.slice A1 l1 c1) (L++M)/\Fd W (w6.setCell ⟨W.heap.size,1,none⟩ (.int .i64 j)) (.slice B L.length n) (.slice A1 l1 c1)):=⟨(HD6.1.set hw0 HX6.s 1 _).at hjl,HD6.2.set (nL _) 1 _⟩;have HGj:Hid (gN E 1 a d=bnd (gN E 2 j d) fun b ns=>ahd (ns++[nd0 8]) (gN E 1 b d)):=by
     show gN E 1 a d=_
     rw [HGa.out,iP hkk,hj]
    obtain ⟨k0,k1,k2,k3,k4,k5,k6⟩:=HX6.s.cl;have g1:=HX6.s.fz 1;clear HGa hkk hj HD6 HS;go_wp2_with fail;refine (HSa _ HD7.1).mono ?_;intro e w8 hp;clear k0 k1 k2 k3 k4 k5 k6 g1 HSa HX6
    cases hr:gN E 2 j d with
    | inr q =>
     rw [hr] at hp;obtain ⟨i',d',A2,l2,c2,rfl,h1,h2⟩:=hp;have hq:=(zbx hjl (by omega) hr).2;have hq0:q.2≠0:=by omega
     have HX8:Hid (BX W.heap.size w8 (.slice A E.l.length ct) j z d (.slice A1 l1 c1) 0 0):=HX7.fd HD7.1.o h2;have HB8:Hid (Below w0.heap.size w0 w8/\Fd W w8 (.slice B L.length n) (.slice none 0 0)):=⟨h1,HD7.2.trans h2⟩;have HV:Hid (R0=.inr q/\q.2≠0):=by
      refine ⟨?_,hq0⟩;rw [HR4.out,HGj.out,hr];rfl
     have HPu:Hid (∀W2,Cl 83 #[rdV (.slice A E.l.length ct) i' z d' (.slice A2 l2 c2) (plA E z q.1) q.2,T.ndG (nd0 8)] W2 (rB W2 (rdV (.slice A E.l.length ct) i' z d' (.slice A2 l2 c2) (plA E z q.1) q.2))):=fun W2=>zg9 A E.l.length ct i' z d' A2 l2 c2 _ _ _ hq0 W2
     clear h1 h2 hq hq0 hr HX7 HD7 HGj HR4 HE HI;obtain ⟨k0,k1,k2,k3,k4,k5,k6⟩:=HX8.s.cl;obtain ⟨f0,f1,f2,f3,f4,f5,f6⟩:=HX8.s.fzs;go_wp2_with fail;refine (HPu _).mono ?_;rintro e w10 ⟨rfl,hb⟩;have HX10:Hid (BX W.heap.size w10 (.slice A E.l.length ct) i' z d' (.slice A2 l2 c2) (plA E z q.1) q.2):=(HX8.st (.slice A E.l.length ct) i' z d' (.slice A2 l2 c2) (plA E z q.1) q.2).later hb;have HB10:=(show Hid (Below w0.heap.size w0 w10/\Fd W w10 (.slice B L.length n) (.slice none 0 0)) from by
      have b1:=zaq HB8.1 hw0 (.slice A E.l.length ct) (.int .i64 i') (.int .i64 z) (.int .i64 d') (.slice A2 l2 c2) (.int .i64 (plA E z q.1)) (.int .i64 q.2);exact ⟨b1.trans (hb.mono b1.size),(HB8.2.st7 (nL _) _ _ _ _ _ _ _).trans (Fd.below _ hb)⟩)
     clear hb HPu HX8 HB8 k0 k1 k2 k3 k4 k5 k6 f0 f1 f2 f3 f4 f5 f6;obtain ⟨k0,k1,k2,k3,k4,k5,k6⟩:=HX10.s.cl;obtain ⟨f0,f1,f2,f3,f4,f5,f6⟩:=HX10.s.fzs;go_wp2_with fail;go_roundw
     case rel=>exact ⟨_,_,_,_,_,_,_,HX10.st (.slice A E.l.length ct) i' z d' (.slice A2 l2 c2) (plA E z q.1) q.2,.inr ⟨q,rfl,rfl,HV.2,HV.1,zaq HB10.1 hw0 _ _ _ _ _ _ _,HB10.2.st7 (nL _) _ _ _ _ _ _ _⟩⟩
     case measure =>
      rw [HM.out];refine Nat.lt_of_le_of_lt (Nat.le_of_eq (mD_no (HX10.st (.slice A E.l.length ct) i' z d' (.slice A2 l2 c2) (plA E z q.1) q.2) HV.2)) ?_;omega
    | inl p =>
     obtain ⟨b,ns⟩:=p;rw [hr] at hp;obtain ⟨v',rfl,h1,h2⟩:=hp;have hadv:=zbM hjl (by omega) hr;have hlenN:=(zbU HE.rl hjl (by omega) hr).1 (by omega);obtain ⟨A2,c2,hv2⟩:=zag h1.o;dsimp only at hv2 h1;obtain ⟨l2,hl2⟩:∃l,l=(L++M++ns).length:=⟨_,rfl⟩;rw [<-hl2] at hv2;subst hv2;have hjb:=hadv.2.2 (by omega);have hbl:=hadv.2.1;have hN:(L++M++ns++[nd0 8]).length<=10027010 * b:=by
      have e1:=HL1.2;have e2:=HJ.1;rw [lA,lA,List.length_singleton];omega
     have HX8:Hid (BX W.heap.size w8 (.slice A E.l.length ct) j z d (.slice A1 l1 c1) 0 0):=HX7.fd HD7.1.o h2;have HD8:Hid (DS E w0 w8 (.slice A E.l.length ct) b d (.slice A2 l2 c2) (L++M++ns)/\Fd W w8 (.slice B L.length n) (.slice A2 l2 c2)):=⟨h1,HD7.2.trans h2⟩;have HV:Hid (R0=ahd (M++ns++[nd0 8]) (gN E 1 b d)):=by
      show R0=_
      rw [HR4.out,HGj.out,hr]
      show ahd M (ahd (ns++[nd0 8]) _)=_
      rw [zcr,List.append_assoc]
     have HNn:Hid ((L++M++ns++[nd0 8]).length<=10027010 * b/\i<b/\b<=E.l.length/\a<b):=⟨hN,by have:=HJ.1;omega,hbl,by have:=HJ.1;omega⟩;have HPu:Hid (∀W2,DS E w0 W2 (.slice A E.l.length ct) b d (.slice A2 l2 c2) (L++M++ns)->Cl 83 #[rdV (.slice A E.l.length ct) b z d (.slice A2 l2 c2) 0 0,T.ndG (nd0 8)] W2 fun e W'=>∃v',e=.returned (rdV (.slice A E.l.length ct) b z d v' 0 0)/\DS E w0 W' (.slice A E.l.length ct) b d v' (L++M++ns++[nd0 8])/\Fd W2 W' (.slice A2 l2 c2) v'):=fun W2 h=>zha h b z d 0 (nd0 8) (by show (8:Int)≠0;decide) (by rw [lA,List.length_singleton] at hN;omega)
     clear h1 h2 hr HX7 HD7 HGj HR4 HE HI hadv hlenN hl2 hjb hbl hN HJ HL1;obtain ⟨k0,k1,k2,k3,k4,k5,k6⟩:=HX8.s.cl;obtain ⟨f0,f1,f2,f3,f4,f5,f6⟩:=HX8.s.fzs;go_wp2_with fail;have hD9:=HD8.1.st7 hw0 HX8.s (.slice A E.l.length ct) (.int .i64 b) (.int .i64 z) (.int .i64 d) (.slice A2 l2 c2) (.int .i64 0) (.int .i64 0);refine (HPu _ hD9).mono ?_;rintro e w10 ⟨v3,rfl,h3,hf3⟩;obtain ⟨A3,c3,hv3⟩:=zag h3.o;obtain ⟨l3,hl3⟩:∃l,l=(L++M++ns++[nd0 8]).length:=⟨_,rfl⟩;rw [<-hl3] at hv3;subst hv3;have HX10:Hid (BX W.heap.size w10 (.slice A E.l.length ct) b z d (.slice A2 l2 c2) 0 0):=(HX8.st (.slice A E.l.length ct) b z d (.slice A2 l2 c2) 0 0).fd hD9.o hf3;have HD10:Hid (DS E w0 w10 (.slice A E.l.length ct) b d (.slice A3 l3 c3) (L++M++ns++[nd0 8])/\Fd W w10 (.slice B L.length n) (.slice A3 l3 c3)/\l3=(L++M++ns++[nd0 8]).length):=⟨h3,(HD8.2.st7 (nL _) _ _ _ _ _ _ _).trans hf3,hl3⟩;clear hD9 h3 hf3 hl3 HPu HX8 HD8 k0 k1 k2 k3 k4 k5 k6 f0 f1 f2 f3 f4 f5 f6;obtain ⟨k0,k1,k2,k3,k4,k5,k6⟩:=HX10.s.cl;obtain ⟨f0,f1,f2,f3,f4,f5,f6⟩:=HX10.s.fzs;go_wp2_with fail;have eL:L++M++ns++[nd0 8]=L++(M++ns++[nd0 8]):=by simp
     go_roundw
     case rel=>exact ⟨_,_,_,_,_,_,_,HX10.st (.slice A E.l.length ct) b z d (.slice A3 l3 c3) 0 0,.inl ⟨b,M++ns++[nd0 8],rfl,rfl,rfl,rfl,by rw [<-eL];exact HD10.2.2,HNn.2.1,HNn.2.2.1,by rw [<-eL];exact HNn.1,by rw [<-eL];exact HD10.1.st7 hw0 HX10.s _ _ _ _ _ _ _,HD10.2.1.st7 (nL _) _ _ _ _ _ _ _,HV.out⟩⟩
     case measure =>
      rw [HM.out];have:=HNn.2.2;refine Nat.lt_of_le_of_lt (Nat.le_of_eq (zdU (HX10.st (.slice A E.l.length ct) b z d (.slice A3 l3 c3) 0 0))) ?_;omega
   ·have HV:Hid (R0=.inl (a,M)):=by
     show R0=_
     rw [HR4.out,HGa.out,iN hkk]
     show Sum.inl (a,M++[])=_
     rw [List.append_nil]
    have t1:(kdA E a==7)=false:=bF hkk;clear hkk HR4 HGa HS HE HI;obtain ⟨k0,k1,k2,k3,k4,k5,k6⟩:=HX6.s.cl;obtain ⟨f0,f1,f2,f3,f4,f5,f6⟩:=HX6.r.fzs;obtain ⟨m0,m1,m2,m3,m4,m5,m6⟩:=HX6.r.cl;go_wp2_with fail;refine zaV (s:=2) rfl rfl rfl (zaH HX6.r _ _ _ _ _ _ _) ?_
    show PoD _ _ _ _ _ _ _ _ R0 _ _
    rw [HV.out];exact ⟨_,rfl,HD6.1.st7 (by omega) HX6.r _ _ _ _ _ _ _,HD6.2.st7 (Nat.le_succ _) _ _ _ _ _ _ _⟩
  ·have HXe:=hO hX
   have HFe:Hid (Below w0.heap.size w0 wr/\Fd W wr (.slice B L.length n) (.slice none 0 0)):=⟨hB,hF⟩;have HRe:=hO hR;have HOe:Hid (∀_:Unit,Cl 28 #[rdV (.slice A E.l.length ct) i3 z d3 (.slice A1 l1 c1) (plA E z q.1) q.2] wr (rB wr (.bool false))):=fun _=>by
    have:=HO i3 d3 A1 l1 c1 (plA E z q.1) q.2 wr;rw [show (q.2==0)=false from by simpa using hq] at this;exact this
   clear HW hX hR hB hF hq HO HS;obtain ⟨k0,k1,k2,k3,k4,k5,k6⟩:=HXe.s.cl;go_wp2_with fail;refine (HOe ()).mono ?_;rintro e w5 ⟨rfl,hb⟩;have HX5:=hO (HXe.later hb);have HF5:Hid (Below w0.heap.size w0 w5/\Fd W w5 (.slice B L.length n) (.slice none 0 0)):=⟨HFe.1.trans (hb.mono HFe.1.size),HFe.2.trans (Fd.below _ hb)⟩;clear hb HOe HXe HFe k0 k1 k2 k3 k4 k5 k6;obtain ⟨k0,k1,k2,k3,k4,k5,k6⟩:=HX5.s.cl;obtain ⟨f0,f1,f2,f3,f4,f5,f6⟩:=HX5.r.fzs;obtain ⟨m0,m1,m2,m3,m4,m5,m6⟩:=HX5.r.cl;go_wp2_with fail;refine zaV (s:=2) rfl rfl rfl (zaH HX5.r _ _ _ _ _ _ _) ?_;exact HI.out R0 q HRe _ (zaq HF5.1 (by omega) _ _ _ _ _ _ _) (HF5.2.st7 (Nat.le_succ _) _ _ _ _ _ _ _) _ _ _ _ _
theorem zhR {E:PE} (hE:OkE E) {z:Nat} {w0:World} {tv:Value} {i d:Nat} (HS0:∀a,i<=a->a<=E.l.length->Cd 111 E z w0 tv a d (gN E 4 a d)):Cd 82 E z w0 tv i d (gN E 2 i d):=by
 intro W v L h hL;have hi:=h.hi;have hlen:=hE.len;have hz:=hE.z;have HE:=hO hE;have HS:Hid (∀a,i<=a->a<=E.l.length->Cd 111 E z w0 tv a d (gN E 4 a d)):=HS0;have HG:=hO (g2 E i d hi);obtain ⟨B,n,hv⟩:=zag h.o;subst hv;have HX:=BX.new W tv i z d (.slice B L.length n) 0 0;have HBX:=hO HX.1;have HD:Hid (DS E w0 ((W.alloc (rdO tv i z d (.slice B L.length n) 0 0)).alloc rdZ) tv i d (.slice B L.length n) L):=h.later HX.2;have HF:Hid (Fd W ((W.alloc (rdO tv i z d (.slice B L.length n) 0 0)).alloc rdZ) (.slice B L.length n) (.slice B L.length n)):=Fd.below _ HX.2;have HC:Hid (∀W,DS E w0 W tv i d (.slice B L.length n) L->Cl 111 #[rdV tv i z d (.slice B L.length n) 0 0] W fun e W'=>PoD E z w0 tv d W (.slice B L.length n) L (gN E 4 i d) e W'):=fun W h=>HS0 i (nL _) hi W _ L h hL
 have hw0:=h.bl.size;obtain ⟨A,ct,htv,_⟩:=h.tk;subst htv;have HO:Hid (∀(i d:Int) (A1:Option Addr) (l1 c1:Nat) (p q:Int) W,Cl 28 #[rdV (.slice A E.l.length ct) i z d (.slice A1 l1 c1) p q] W (rB W (.bool (q==0)))):=fun i d A1 l1 c1 p q W=>zaO A E.l.length ct i z d A1 l1 c1 p q W
 have HI:Hid (∀R0:PR,∀q,R0=.inr q->∀W',Below w0.heap.size w0 W'->Fd W W' (.slice B L.length n) (.slice none 0 0)->∀(i' d':Int) (A1:Option Addr) (l1 c1:Nat),PoD E z w0 (.slice A E.l.length ct) d W (.slice B L.length n) L R0 (.returned (rdV (.slice A E.l.length ct) i' z d' (.slice A1 l1 c1) (plA E z q.1) q.2)) W'):=fun R0 q hq W' h1 h2 i' d' A1 l1 c1=>by rw [hq];exact ⟨i',d',A1,l1,c1,rfl,h1,h2⟩
 generalize hR0:gN E 2 i d=R0 at *;clear h hE HS0 HX hR0;go_enter Tryz.func82,Tryz.ntmps82;go_wp2_with fail;generalize (W.alloc (rdO (.slice A E.l.length ct) i z d (.slice B L.length n) 0 0)).alloc rdZ=w1 at *;have HX2:=HBX;have HD2:=HD;have HF2:=HF;clear HBX HD HF;refine (HC _ HD2.out).mono ?_;intro e w3 hp;have HIv:Hid (∃(i3 d3:Int) (A1:Option Addr) (l1 c1:Nat) (p3 q3:Int),e=.returned (rdV (.slice A E.l.length ct) i3 z d3 (.slice A1 l1 c1) p3 q3)/\BX W.heap.size w3 (.slice A E.l.length ct) i z d (.slice B L.length n) 0 0/\SvD E z w0 (.slice A E.l.length ct) i d W (.slice B L.length n) L 3 R0 w3 i3 d3 (.slice A1 l1 c1) l1 p3 q3):=by
  show _
  cases hr:gN E 4 i d with
  | inr q =>
   rw [hr] at hp;obtain ⟨i',d',A1,l1,c1,rfl,h1,h2⟩:=hp;have hV:R0=.inr q:=by rw [HG.out,hr];rfl
   have hq:=(zbx hi (by omega) hr).2;exact ⟨i',d',A1,l1,c1,_,_,rfl,HX2.fd HD2.o h2,.inr ⟨q,rfl,rfl,by omega,hV,h1,HF2.trans h2⟩⟩
  | inl p =>
   obtain ⟨a,ns⟩:=p;rw [hr] at hp;obtain ⟨v',rfl,h1,h2⟩:=hp;have hadv:=zbM hi (by omega) hr;have hlenN:=(zbU HE.rl hi (by omega) hr).1 (by omega);obtain ⟨A1,c1,hv1⟩:=zag h1.o;dsimp only at hv1 h1;subst hv1;exact ⟨_,_,A1,_,c1,_,_,rfl,HX2.fd HD2.o h2,.inl ⟨a,ns,rfl,rfl,rfl,rfl,rfl,hadv.2.2 (by omega),hadv.2.1,by rw [lA];omega,h1,HF2.trans h2,by rw [HG.out,hr];rfl⟩⟩
 clear hp HC HX2 HD2 HF2 HG;obtain ⟨i3,d3,A1,l1,c1,p3,q3,rfl,hX3,hS3⟩:=HIv.out;clear HIv;have HX3:=hO hX3;have HS3:=hO hS3;clear hX3 hS3;obtain ⟨k0,k1,k2,k3,k4,k5,k6⟩:=HX3.s.cl;obtain ⟨f0,f1,f2,f3,f4,f5,f6⟩:=HX3.s.fzs;go_wp2_with fail;have HIn:Hid (BX W.heap.size (st7 w3 W.heap.size (.slice A E.l.length ct) (.int .i64 i3) (.int .i64 z) (.int .i64 d3) (.slice A1 l1 c1) (.int .i64 p3) (.int .i64 q3)) (.slice A E.l.length ct) i3 z d3 (.slice A1 l1 c1) p3 q3/\SvD E z w0 (.slice A E.l.length ct) i d W (.slice B L.length n) L 3 R0 (st7 w3 W.heap.size (.slice A E.l.length ct) (.int .i64 i3) (.int .i64 z) (.int .i64 d3) (.slice A1 l1 c1) (.int .i64 p3) (.int .i64 q3)) i3 d3 (.slice A1 l1 c1) l1 p3 q3):=by
  refine ⟨HX3.st _ _ _ _ _ _ _,?_⟩
  rcases HS3.out with ⟨a,M,e1,e2,e3,e4,e5,e6,e7,e8,e9,e10,e11⟩ | ⟨q,e1,e2,e3,e4,e5,e6⟩
  ·exact .inl ⟨a,M,e1,e2,e3,e4,e5,e6,e7,e8,e9.st7 hw0 HX3.s _ _ _ _ _ _ _,e10.st7 (nL _) _ _ _ _ _ _ _,e11⟩
  ·exact .inr ⟨q,e1,e2,e3,e4,zaq e5 hw0 _ _ _ _ _ _ _,e6.st7 (nL _) _ _ _ _ _ _ _⟩
 clear HX3 HS3 k0 k1 k2 k3 k4 k5 k6 f0 f1 f2 f3 f4 f5 f6;go_loopw [5] (fun _ wr=>∃(i3 d3:Int) (A1:Option Addr) (l1 c1:Nat) (p3 q3:Int),Hid (BX W.heap.size wr (.slice A E.l.length ct) i3 z d3 (.slice A1 l1 c1) p3 q3/\SvD E z w0 (.slice A E.l.length ct) i d W (.slice B L.length n) L 3 R0 wr i3 d3 (.slice A1 l1 c1) l1 p3 q3)) (fun _ wr=>mD W.heap.size E.l.length wr)
 case atStart=>exact ⟨_,_,_,_,_,_,_,HIn⟩
 case round =>
  obtain ⟨i3,d3,A1,l1,c1,p3,q3,HW⟩:=hrel;clear HIn
  rcases HW.out with ⟨hX,⟨a,M,rfl,rfl,rfl,rfl,hl1,ha1,ha2,hlm,hD,hF,hR⟩ | ⟨q,rfl,rfl,hq,hR,hB,hF⟩⟩
  ·have HX4:=hO hX
   have HD4:Hid (DS E w0 wr (.slice A E.l.length ct) a d (.slice A1 l1 c1) (L++M)/\Fd W wr (.slice B L.length n) (.slice A1 l1 c1)):=⟨hD,hF⟩;have HM:Hid (mD W.heap.size E.l.length wr=E.l.length+1 - a):=zdU hX;have HR4:Hid (R0=ahd M (gN E 3 a d)):=hR;have HGa:=hO (g3 E a d ha2);have HOk:Hid (∀_:Unit,Cl 28 #[rdV (.slice A E.l.length ct) a z d (.slice A1 l1 c1) 0 0] wr (rB wr (.bool true))):=fun _=>HO a d A1 l1 c1 0 0 wr
   have HCo:Hid (∀W2,DS E w0 W2 (.slice A E.l.length ct) a d (.slice A1 l1 c1) (L++M)->Cl 112 #[rdV (.slice A E.l.length ct) a z d (.slice A1 l1 c1) 0 0] W2 (rB W2 (.bool (bgn E a)))):=fun W2 h=>zcy h z d 0 hz
   have HL1:Hid (l1=(L++M).length/\(L++M).length<=10027010 * a):=⟨hl1,hlm⟩;clear HW hX hD hF hR HO hl1 hlm;obtain ⟨k0,k1,k2,k3,k4,k5,k6⟩:=HX4.s.cl;go_wp2_with fail;refine (HOk ()).mono ?_;rintro e w5 ⟨rfl,hb⟩;have HX5:=hO (HX4.later hb);have HD5:Hid (DS E w0 w5 (.slice A E.l.length ct) a d (.slice A1 l1 c1) (L++M)/\Fd W w5 (.slice B L.length n) (.slice A1 l1 c1)):=⟨HD4.1.later hb,HD4.2.trans (Fd.below _ hb)⟩;clear hb HOk HX4 HD4 k0 k1 k2 k3 k4 k5 k6;obtain ⟨k0,k1,k2,k3,k4,k5,k6⟩:=HX5.s.cl;go_wp2_with fail;refine (HCo _ HD5.1).mono ?_;rintro e w6 ⟨rfl,hb⟩;have HX6:=hO (HX5.later hb);have HD6:Hid (DS E w0 w6 (.slice A E.l.length ct) a d (.slice A1 l1 c1) (L++M)/\Fd W w6 (.slice B L.length n) (.slice A1 l1 c1)):=⟨HD5.1.later hb,HD5.2.trans (Fd.below _ hb)⟩;clear hb HCo HX5 HD5 k0 k1 k2 k3 k4 k5 k6;by_cases hkk:bgn E a=true
   ·have hlt:a<E.l.length:=zc6 hkk
    have t1:bgn E a=true:=hkk;obtain ⟨j,hj⟩:∃j,j=a:=⟨_,rfl⟩;have u1:IntKind.i64.wrap ((a:Int)+1)=((a+1:Nat):Int):=by rw [wI];omega
    clear u1;have hjl:j<=E.l.length:=by omega
    have HJ:Hid (a<=j/\j<=a+1):=⟨by omega,by omega⟩;have HSa:Hid (∀W2,DS E w0 W2 (.slice A E.l.length ct) j d (.slice A1 l1 c1) (L++M)->Cl 111 #[rdV (.slice A E.l.length ct) j z d (.slice A1 l1 c1) 0 0] W2 fun e W'=>PoD E z w0 (.slice A E.l.length ct) d W2 (.slice A1 l1 c1) (L++M) (gN E 4 j d) e W'):=fun W2 h=>HS j (by omega) hjl W2 _ _ h (Nat.le_trans HL1.2 (Nat.mul_le_mul_left _ HJ.1))
    have HX7:Hid (BX W.heap.size w6 (.slice A E.l.length ct) j z d (.slice A1 l1 c1) 0 0):=by rw [hj];exact HX6.out
    have HD7:Hid (DS E w0 w6 (.slice A E.l.length ct) j d (.slice A1 l1 c1) (L++M)/\Fd W w6 (.slice B L.length n) (.slice A1 l1 c1)):=by rw [hj];exact HD6.out
    have HGj:Hid (gN E 3 a d=bnd (gN E 4 j d) fun b ns=>ahd (ns++[nd0 7]) (gN E 3 b d)):=by
     show gN E 3 a d=_
     rw [HGa.out,iP hkk,hj]
    obtain ⟨k0,k1,k2,k3,k4,k5,k6⟩:=HX7.s.cl;have g1:=HX7.s.fz 1;clear HGa hkk hj HD6 HS;go_wp2_with fail;refine (HSa _ HD7.1).mono ?_;intro e w8 hp;clear k0 k1 k2 k3 k4 k5 k6 g1 HSa HX6
    cases hr:gN E 4 j d with
    | inr q =>
     rw [hr] at hp;obtain ⟨i',d',A2,l2,c2,rfl,h1,h2⟩:=hp;have hq:=(zbx hjl (by omega) hr).2;have hq0:q.2≠0:=by omega
     have HX8:Hid (BX W.heap.size w8 (.slice A E.l.length ct) j z d (.slice A1 l1 c1) 0 0):=HX7.fd HD7.1.o h2;have HB8:Hid (Below w0.heap.size w0 w8/\Fd W w8 (.slice B L.length n) (.slice none 0 0)):=⟨h1,HD7.2.trans h2⟩;have HV:Hid (R0=.inr q/\q.2≠0):=by
      refine ⟨?_,hq0⟩;rw [HR4.out,HGj.out,hr];rfl
     have HPu:Hid (∀W2,Cl 83 #[rdV (.slice A E.l.length ct) i' z d' (.slice A2 l2 c2) (plA E z q.1) q.2,T.ndG (nd0 7)] W2 (rB W2 (rdV (.slice A E.l.length ct) i' z d' (.slice A2 l2 c2) (plA E z q.1) q.2))):=fun W2=>zg9 A E.l.length ct i' z d' A2 l2 c2 _ _ _ hq0 W2
     clear h1 h2 hq hq0 hr HX7 HD7 HGj HR4 HE HI;obtain ⟨k0,k1,k2,k3,k4,k5,k6⟩:=HX8.s.cl;obtain ⟨f0,f1,f2,f3,f4,f5,f6⟩:=HX8.s.fzs;go_wp2_with fail;refine (HPu _).mono ?_;rintro e w10 ⟨rfl,hb⟩;have HX10:Hid (BX W.heap.size w10 (.slice A E.l.length ct) i' z d' (.slice A2 l2 c2) (plA E z q.1) q.2):=(HX8.st (.slice A E.l.length ct) i' z d' (.slice A2 l2 c2) (plA E z q.1) q.2).later hb;have HB10:=(show Hid (Below w0.heap.size w0 w10/\Fd W w10 (.slice B L.length n) (.slice none 0 0)) from by
      have b1:=zaq HB8.1 hw0 (.slice A E.l.length ct) (.int .i64 i') (.int .i64 z) (.int .i64 d') (.slice A2 l2 c2) (.int .i64 (plA E z q.1)) (.int .i64 q.2);exact ⟨b1.trans (hb.mono b1.size),(HB8.2.st7 (nL _) _ _ _ _ _ _ _).trans (Fd.below _ hb)⟩)
     clear hb HPu HX8 HB8 k0 k1 k2 k3 k4 k5 k6 f0 f1 f2 f3 f4 f5 f6;obtain ⟨k0,k1,k2,k3,k4,k5,k6⟩:=HX10.s.cl;obtain ⟨f0,f1,f2,f3,f4,f5,f6⟩:=HX10.s.fzs;go_wp2_with fail;go_roundw
     case rel=>exact ⟨_,_,_,_,_,_,_,HX10.st (.slice A E.l.length ct) i' z d' (.slice A2 l2 c2) (plA E z q.1) q.2,.inr ⟨q,rfl,rfl,HV.2,HV.1,zaq HB10.1 hw0 _ _ _ _ _ _ _,HB10.2.st7 (nL _) _ _ _ _ _ _ _⟩⟩
     case measure =>
      rw [HM.out];refine Nat.lt_of_le_of_lt (Nat.le_of_eq (mD_no (HX10.st (.slice A E.l.length ct) i' z d' (.slice A2 l2 c2) (plA E z q.1) q.2) HV.2)) ?_;omega
    | inl p =>
     obtain ⟨b,ns⟩:=p;rw [hr] at hp;obtain ⟨v',rfl,h1,h2⟩:=hp;have hadv:=zbM hjl (by omega) hr;have hlenN:=(zbU HE.rl hjl (by omega) hr).1 (by omega);obtain ⟨A2,c2,hv2⟩:=zag h1.o;dsimp only at hv2 h1;obtain ⟨l2,hl2⟩:∃l,l=(L++M++ns).length:=⟨_,rfl⟩;rw [<-hl2] at hv2;subst hv2;have hjb:=hadv.2.2 (by omega);have hbl:=hadv.2.1;have hN:(L++M++ns++[nd0 7]).length<=10027010 * b:=by
      have e1:=HL1.2;have e2:=HJ.1;rw [lA,lA,List.length_singleton];omega
     have HX8:Hid (BX W.heap.size w8 (.slice A E.l.length ct) j z d (.slice A1 l1 c1) 0 0):=HX7.fd HD7.1.o h2;have HD8:Hid (DS E w0 w8 (.slice A E.l.length ct) b d (.slice A2 l2 c2) (L++M++ns)/\Fd W w8 (.slice B L.length n) (.slice A2 l2 c2)):=⟨h1,HD7.2.trans h2⟩;have HV:Hid (R0=ahd (M++ns++[nd0 7]) (gN E 3 b d)):=by
      show R0=_
      rw [HR4.out,HGj.out,hr]
      show ahd M (ahd (ns++[nd0 7]) _)=_
      rw [zcr,List.append_assoc]
     have HNn:Hid ((L++M++ns++[nd0 7]).length<=10027010 * b/\i<b/\b<=E.l.length/\a<b):=⟨hN,by have:=HJ.1;omega,hbl,by have:=HJ.1;omega⟩;have HPu:Hid (∀W2,DS E w0 W2 (.slice A E.l.length ct) b d (.slice A2 l2 c2) (L++M++ns)->Cl 83 #[rdV (.slice A E.l.length ct) b z d (.slice A2 l2 c2) 0 0,T.ndG (nd0 7)] W2 fun e W'=>∃v',e=.returned (rdV (.slice A E.l.length ct) b z d v' 0 0)/\DS E w0 W' (.slice A E.l.length ct) b d v' (L++M++ns++[nd0 7])/\Fd W2 W' (.slice A2 l2 c2) v'):=fun W2 h=>zha h b z d 0 (nd0 7) (by show (7:Int)≠0;decide) (by rw [lA,List.length_singleton] at hN;omega)
     clear h1 h2 hr HX7 HD7 HGj HR4 HE HI hadv hlenN hl2 hjb hbl hN HJ HL1;obtain ⟨k0,k1,k2,k3,k4,k5,k6⟩:=HX8.s.cl;obtain ⟨f0,f1,f2,f3,f4,f5,f6⟩:=HX8.s.fzs;go_wp2_with fail;have hD9:=HD8.1.st7 hw0 HX8.s (.slice A E.l.length ct) (.int .i64 b) (.int .i64 z) (.int .i64 d) (.slice A2 l2 c2) (.int .i64 0) (.int .i64 0);refine (HPu _ hD9).mono ?_;rintro e w10 ⟨v3,rfl,h3,hf3⟩;obtain ⟨A3,c3,hv3⟩:=zag h3.o;obtain ⟨l3,hl3⟩:∃l,l=(L++M++ns++[nd0 7]).length:=⟨_,rfl⟩;rw [<-hl3] at hv3;subst hv3;have HX10:Hid (BX W.heap.size w10 (.slice A E.l.length ct) b z d (.slice A2 l2 c2) 0 0):=(HX8.st (.slice A E.l.length ct) b z d (.slice A2 l2 c2) 0 0).fd hD9.o hf3;have HD10:Hid (DS E w0 w10 (.slice A E.l.length ct) b d (.slice A3 l3 c3) (L++M++ns++[nd0 7])/\Fd W w10 (.slice B L.length n) (.slice A3 l3 c3)/\l3=(L++M++ns++[nd0 7]).length):=⟨h3,(HD8.2.st7 (nL _) _ _ _ _ _ _ _).trans hf3,hl3⟩;clear hD9 h3 hf3 hl3 HPu HX8 HD8 k0 k1 k2 k3 k4 k5 k6 f0 f1 f2 f3 f4 f5 f6;obtain ⟨k0,k1,k2,k3,k4,k5,k6⟩:=HX10.s.cl;obtain ⟨f0,f1,f2,f3,f4,f5,f6⟩:=HX10.s.fzs;go_wp2_with fail;have eL:L++M++ns++[nd0 7]=L++(M++ns++[nd0 7]):=by simp
     go_roundw
     case rel=>exact ⟨_,_,_,_,_,_,_,HX10.st (.slice A E.l.length ct) b z d (.slice A3 l3 c3) 0 0,.inl ⟨b,M++ns++[nd0 7],rfl,rfl,rfl,rfl,by rw [<-eL];exact HD10.2.2,HNn.2.1,HNn.2.2.1,by rw [<-eL];exact HNn.1,by rw [<-eL];exact HD10.1.st7 hw0 HX10.s _ _ _ _ _ _ _,HD10.2.1.st7 (nL _) _ _ _ _ _ _ _,HV.out⟩⟩
     case measure =>
      rw [HM.out];have:=HNn.2.2;refine Nat.lt_of_le_of_lt (Nat.le_of_eq (zdU (HX10.st (.slice A E.l.length ct) b z d (.slice A3 l3 c3) 0 0))) ?_;omega
   ·have HV:Hid (R0=.inl (a,M)):=by
     show R0=_
     rw [HR4.out,HGa.out,iN hkk]
     show Sum.inl (a,M++[])=_
     rw [List.append_nil]
    have t1:bgn E a=false:=Bool.eq_false_iff.2 hkk;clear hkk HR4 HGa HS HE HI;obtain ⟨k0,k1,k2,k3,k4,k5,k6⟩:=HX6.s.cl;obtain ⟨f0,f1,f2,f3,f4,f5,f6⟩:=HX6.r.fzs;obtain ⟨m0,m1,m2,m3,m4,m5,m6⟩:=HX6.r.cl;go_wp2_with fail;refine zaV (s:=2) rfl rfl rfl (zaH HX6.r _ _ _ _ _ _ _) ?_
    show PoD _ _ _ _ _ _ _ _ R0 _ _
    rw [HV.out];exact ⟨_,rfl,HD6.1.st7 (by omega) HX6.r _ _ _ _ _ _ _,HD6.2.st7 (Nat.le_succ _) _ _ _ _ _ _ _⟩
  ·have HXe:=hO hX
   have HFe:Hid (Below w0.heap.size w0 wr/\Fd W wr (.slice B L.length n) (.slice none 0 0)):=⟨hB,hF⟩;have HRe:=hO hR;have HOe:Hid (∀_:Unit,Cl 28 #[rdV (.slice A E.l.length ct) i3 z d3 (.slice A1 l1 c1) (plA E z q.1) q.2] wr (rB wr (.bool false))):=fun _=>by
    have:=HO i3 d3 A1 l1 c1 (plA E z q.1) q.2 wr;rw [show (q.2==0)=false from by simpa using hq] at this;exact this
   clear HW hX hR hB hF hq HO HS;obtain ⟨k0,k1,k2,k3,k4,k5,k6⟩:=HXe.s.cl;go_wp2_with fail;refine (HOe ()).mono ?_;rintro e w5 ⟨rfl,hb⟩;have HX5:=hO (HXe.later hb);have HF5:Hid (Below w0.heap.size w0 w5/\Fd W w5 (.slice B L.length n) (.slice none 0 0)):=⟨HFe.1.trans (hb.mono HFe.1.size),HFe.2.trans (Fd.below _ hb)⟩;clear hb HOe HXe HFe k0 k1 k2 k3 k4 k5 k6;obtain ⟨k0,k1,k2,k3,k4,k5,k6⟩:=HX5.s.cl;obtain ⟨f0,f1,f2,f3,f4,f5,f6⟩:=HX5.r.fzs;obtain ⟨m0,m1,m2,m3,m4,m5,m6⟩:=HX5.r.cl;go_wp2_with fail;refine zaV (s:=2) rfl rfl rfl (zaH HX5.r _ _ _ _ _ _ _) ?_;exact HI.out R0 q HRe _ (zaq HF5.1 (by omega) _ _ _ _ _ _ _) (HF5.2.st7 (Nat.le_succ _) _ _ _ _ _ _ _) _ _ _ _ _
end Go.Proofs.YtkihfkcmcdiajaaGreatDoor.N
