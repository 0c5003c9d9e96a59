import Derived.RegionTactic
import Derived.Laws.OwnMore
import Derived.Test.YtkihfkcmcdiajabGreatDoorPo18
set_option maxRecDepth 100000
set_option maxHeartbeats 8000000
namespace Go.Proofs.YtkihfkcmcdiajabGreatDoor.N
open Go.RowKit
theorem zpb {E:PE} (hE:OkE E) {z:Nat} {w0:World} {tv:Value} {i d:Nat} (hb:bgn E i=false) (W:World) (v:Value) (L:List Nd) (h:DS E w0 W tv i d v L):Cl 73 #[rdV tv i z d v 0 0] W fun e W'=>PoD E z w0 tv d W v L (.inr (i,60)) e W':=by
 have hi:=h.hi;have hlen:=hE.len;have hz:=hE.z;obtain ⟨B,cB,hv⟩:=zaf h.o;subst hv;obtain ⟨At,ct,htv,_⟩:=h.tk;subst htv
 suffices Hm:Cl 73 #[rdV (.slice At E.l.length ct) i z d (.slice B L.length cB) 0 0] W fun e W'=>Pu E z w0 (.slice At E.l.length ct) W (.slice B L.length cB) (.inl (i,d,L)) (stR d L (.inr (i,60))) e W' from Hm.mono fun _ _ hp=>hp.pod
 obtain ⟨s0,hs0⟩:∃s,s=(.inl (i,d,L):St):=⟨_,rfl⟩;have HK:Hid (∀W,Cl 15 #[rdV (.slice At E.l.length ct) i z d (.slice B L.length cB) 0 0] W (rB W (.bool true))):=fun W=>zaP At E.l.length ct i z d B L.length cB 0 0 W
 have HX:=BX.new W (.slice At E.l.length ct) i z d (.slice B L.length cB) 0 0;have HB:=hO HX.1;have HW:Hid (WS E z w0 (.slice At E.l.length ct) W 2 (.slice B L.length cB) ((W.alloc (rdO (.slice At E.l.length ct) i z d (.slice B L.length cB) 0 0)).alloc rdZ) s0 i d B L.length cB 0 0):=by
  rw [hs0];exact WS.new h HX.2 (by rw [sA,sA];omega)
 have HBg:Hid (∀W,Rv E z w0 (.slice At E.l.length ct) W s0 i d B L.length cB 0 0->Cl 74 #[rdV (.slice At E.l.length ct) i z d (.slice B L.length cB) 0 0] W (rB W (.bool (bgn E i)))):=fun W h=>by
  rw [hs0] at h;exact zcz h.2.2.2.2.2 z d 0 hz
 have HKd:Hid (∀W,Rv E z w0 (.slice At E.l.length ct) W s0 i d B L.length cB 0 0->Cl 39 #[rdV (.slice At E.l.length ct) i z d (.slice B L.length cB) 0 0,.int .i64 0] W (rB W (.int .i64 (kdA E i)))):=fun W h=>by
  rw [hs0] at h;exact za4 h.2.2.2.2.2 z d 0 0 0 i (by omega) (by omega) hz
 have HS0:=hO hs0;have HF:Hid (∀W,Rv E z w0 (.slice At E.l.length ct) W s0 i d B L.length cB 0 0->Cl 26 #[rdV (.slice At E.l.length ct) i z d (.slice B L.length cB) 0 0,.int .i64 60] W (rB W (rdV (.slice At E.l.length ct) i z d (.slice B L.length cB) (plA E z i) 60))):=fun W h=>by
  rw [hs0] at h;exact zbl h.2.2.2.2.2 z d 0 60
 obtain ⟨pl,hpl⟩:∃x,x=plA E z i:=⟨_,rfl⟩;rw [<-hpl] at HF;have HPL:=hO hpl;clear hpl;clear hs0 HX h hE hlen hz hi HKd;go_enter Tryz.func73,Tryz.ntmps73;go_wp2_with fail;generalize (W.alloc (rdO (.slice At E.l.length ct) i z d (.slice B L.length cB) 0 0)).alloc rdZ=w1 at *;refine (HK _).mono ?_;rintro e w2 ⟨rfl,hb⟩;have HB2:=hO (HB.later hb);have HW2:=hO (HW.later hb);clear hb HK HW HB;obtain ⟨k0,k1,k2,k3,k4,k5,k6⟩:=HB2.s.cl;go_wp2_with fail;rw [hb] at HBg;refine (HBg _ HW2.rv).mono ?_;rintro e w3 ⟨rfl,hb⟩;have HB3:=hO (HB2.later hb);have HW3:=hO (HW2.later hb);clear hb HBg HW2 HB2 k0 k1 k2 k3 k4 k5 k6;obtain ⟨k0,k1,k2,k3,k4,k5,k6⟩:=HB3.s.cl;go_wp2_with fail;refine (HF _ HW3.rv).mono ?_;rintro e w4 ⟨rfl,hb⟩;have HB4:=hO (HB3.later hb);have HW4:=hO (HW3.later hb);clear hb HF HW3 HB3 k0 k1 k2 k3 k4 k5 k6;obtain ⟨k0,k1,k2,k3,k4,k5,k6⟩:=HB4.r.cl;obtain ⟨f0,f1,f2,f3,f4,f5,f6⟩:=HB4.r.fzs;go_wp2_with fail;refine zaV (s:=2) rfl rfl rfl (zaH HB4.r _ _ _ _ _ _ _) ?_;exact ⟨_,_,_,_,_,_,_,rfl,⟨rfl,HPL.out,by show (60:Int)≠0;decide,((HW4.st7 (by omega) (by omega) _ _ _ _ _ _ _).bl)⟩,(HW4.st7 (by omega) (by omega) _ _ _ _ _ _ _).fd.weak⟩
theorem zmB {E:PE} (hE:OkE E) {z:Nat} {w0:World} {tv:Value} {i d:Nat} {r:PR} (hb:bgn E i=true) (h8:¬kdA E i=8) (h9:¬kdA E i=9) (HS:Cd 97 E z w0 tv i d r) (hr:∀q,r=.inr q->q.2≠0) (W:World) (v:Value) (L:List Nd) (h:DS E w0 W tv i d v L) (hL:L.length<=10027010 * i):Cl 73 #[rdV tv i z d v 0 0] W fun e W'=>PoD E z w0 tv d W v L r e W':=by
 have hi:=h.hi;have hlen:=hE.len;have hz:=hE.z;obtain ⟨B,cB,hv⟩:=zaf h.o;subst hv;obtain ⟨At,ct,htv,_⟩:=h.tk;subst htv
 suffices Hm:Cl 73 #[rdV (.slice At E.l.length ct) i z d (.slice B L.length cB) 0 0] W fun e W'=>Pu E z w0 (.slice At E.l.length ct) W (.slice B L.length cB) (.inl (i,d,L)) (stR d L r) e W' from Hm.mono fun _ _ hp=>hp.pod
 obtain ⟨s0,hs0⟩:∃s,s=(.inl (i,d,L):St):=⟨_,rfl⟩;have HK:Hid (∀W,Cl 15 #[rdV (.slice At E.l.length ct) i z d (.slice B L.length cB) 0 0] W (rB W (.bool true))):=fun W=>zaP At E.l.length ct i z d B L.length cB 0 0 W
 have HX:=BX.new W (.slice At E.l.length ct) i z d (.slice B L.length cB) 0 0;have HB:=hO HX.1;have HW:Hid (WS E z w0 (.slice At E.l.length ct) W 2 (.slice B L.length cB) ((W.alloc (rdO (.slice At E.l.length ct) i z d (.slice B L.length cB) 0 0)).alloc rdZ) s0 i d B L.length cB 0 0):=by
  rw [hs0];exact WS.new h HX.2 (by rw [sA,sA];omega)
 have HBg:Hid (∀W,Rv E z w0 (.slice At E.l.length ct) W s0 i d B L.length cB 0 0->Cl 74 #[rdV (.slice At E.l.length ct) i z d (.slice B L.length cB) 0 0] W (rB W (.bool (bgn E i)))):=fun W h=>by
  rw [hs0] at h;exact zcz h.2.2.2.2.2 z d 0 hz
 have HKd:Hid (∀W,Rv E z w0 (.slice At E.l.length ct) W s0 i d B L.length cB 0 0->Cl 39 #[rdV (.slice At E.l.length ct) i z d (.slice B L.length cB) 0 0,.int .i64 0] W (rB W (.int .i64 (kdA E i)))):=fun W h=>by
  rw [hs0] at h;exact za4 h.2.2.2.2.2 z d 0 0 0 i (by omega) (by omega) hz
 have HS0:=hO hs0;have HSu:Hid (∀W,Rv E z w0 (.slice At E.l.length ct) W s0 i d B L.length cB 0 0->Cl 97 #[rdV (.slice At E.l.length ct) i z d (.slice B L.length cB) 0 0] W fun e W'=>Pu E z w0 (.slice At E.l.length ct) W (.slice B L.length cB) s0 (stR d L r) e W'):=fun W h=>by
  rw [hs0] at h ⊢;exact (HS W _ L h.2.2.2.2.2 hL).mono fun _ _ hp=>hp.u hr
 rw [<-hs0];generalize stR d L r=s1 at *;have t8:(kdA E i != 8)=true:=by simpa using h8
 have t9:(kdA E i != 9)=true:=by simpa using h9
 clear hs0 HX h hE hlen hz hi HS hr hL h8 h9;generalize kdA E i=kk at *;go_enter Tryz.func73,Tryz.ntmps73;go_wp2_with fail;generalize (W.alloc (rdO (.slice At E.l.length ct) i z d (.slice B L.length cB) 0 0)).alloc rdZ=w1 at *;refine (HK _).mono ?_;rintro e w2 ⟨rfl,hb⟩;have HB2:=hO (HB.later hb);have HW2:=hO (HW.later hb);clear hb HK HW HB;obtain ⟨k0,k1,k2,k3,k4,k5,k6⟩:=HB2.s.cl;go_wp2_with fail;rw [hb] at HBg;refine (HBg _ HW2.rv).mono ?_;rintro e w3 ⟨rfl,hb⟩;have HB3:=hO (HB2.later hb);have HW3:=hO (HW2.later hb);clear hb HBg HW2 HB2 k0 k1 k2 k3 k4 k5 k6;obtain ⟨k0,k1,k2,k3,k4,k5,k6⟩:=HB3.s.cl;go_wp2_with fail;refine (HKd _ HW3.rv).mono ?_;rintro e w4 ⟨rfl,hb⟩;have HB4:=hO (HB3.later hb);have HW4:=hO (HW3.later hb);clear hb HKd HW3 HB3 k0 k1 k2 k3 k4 k5 k6;obtain ⟨k0,k1,k2,k3,k4,k5,k6⟩:=HB4.s.cl;go_wp2_with fail;refine (HSu _ HW4.rv).mono ?_;rintro e w5 ⟨i5,d5,A5,l5,c5,p5,q5,rfl,hr,hf⟩;have HB5:=hO (HB4.kept (HW4.keep hf));have HW5:=hO (HW4.call hr hf);clear hr hf HSu HW4 HB4 k0 k1 k2 k3 k4 k5 k6;obtain ⟨k0,k1,k2,k3,k4,k5,k6⟩:=HB5.r.cl;obtain ⟨f0,f1,f2,f3,f4,f5,f6⟩:=HB5.r.fzs;go_wp2_with fail;refine zaV (s:=2) rfl rfl rfl (zaH HB5.r _ _ _ _ _ _ _) ?_;rw [HS0.out];exact (HW5.st7 (by omega) (by omega) _ _ _ _ _ _ _).pu _
theorem zkS {E:PE} (hE:OkE E) {z:Nat} {w0:World} {tv:Value} {i d:Nat} {op:Int} (hop:op≠0) (hk:kdA E i=8/\op=12∨kdA E i=9/\op=13) (HP:Cd 73 E z w0 tv (i+1) (d+1) (gN E 4 (i+1) (d+1))) (W:World) (v:Value) (L:List Nd) (h:DS E w0 W tv i d v L) (hL:L.length<=10027010 * i):Cl 73 #[rdV tv i z d v 0 0] W fun e W'=>PoD E z w0 tv d W v L (rA E i d op) e W':=by
 have hi:=h.hi;have hlen:=hE.len;have hz:=hE.z;obtain ⟨B,cB,hv⟩:=zaf h.o;subst hv;obtain ⟨At,ct,htv,_⟩:=h.tk;subst htv
 suffices Hm:Cl 73 #[rdV (.slice At E.l.length ct) i z d (.slice B L.length cB) 0 0] W fun e W'=>Pu E z w0 (.slice At E.l.length ct) W (.slice B L.length cB) (.inl (i,d,L)) (stR d L (rA E i d op)) e W' from Hm.mono fun _ _ hp=>hp.pod
 rw [<-ah_eq E i d L (nd0 op) hop op rfl];have hlt:i<E.l.length:=za9 (by omega);have hb:bgn E i=true:=by
  unfold bgn
  rcases hk with q | q <;> rw [q.1] <;> rfl
 obtain ⟨s0,hs0⟩:∃s,s=(.inl (i,d,L):St):=⟨_,rfl⟩;obtain ⟨s1,hs1⟩:∃s,s=opS s0:=⟨_,rfl⟩;obtain ⟨s2,hs2⟩:∃s,s=upS s1:=⟨_,rfl⟩;obtain ⟨s3,hs3⟩:∃s,s=gnS E 4 s2:=⟨_,rfl⟩;obtain ⟨s5,hs5⟩:∃s,s=dnS s3:=⟨_,rfl⟩;obtain ⟨s6,hs6⟩:∃s,s=zgr (nd0 op) s5:=⟨_,rfl⟩;have F1:∀s,s1=.inl s->s=(i,d+1,L):=fun s e=>by rw [hs1,hs0] at e;exact (zkP e).2
 have F2:∀s,s2=.inl s->s=(i+1,d+1,L):=fun s e=>by
  rw [hs2] at e;obtain ⟨t,e1,e2⟩:=zkN e;rw [e2,F1 _ e1]
 have F4:∀s,s3=.inl s->s.2.1=d+1/\s.2.2.length+1<=2000000000000:=fun s e=>by
  rw [hs3] at e;obtain ⟨t2,a,ns,e3,e4,e5⟩:=zkQ e;have e6:=F2 _ e3;subst e6 e5;have h1:=(zbW hE.rl (i:=i+1) (by omega) (by omega) e4).2;have h2:=(zbN (i:=i+1) (by omega) (by omega) e4).2.1;refine ⟨rfl,?_⟩
  show (L++ns).length+1<=_
  rw [lA];omega
 have H1:Hid (∀s,s1=.inl s->s.1<E.l.length):=fun s e=>by rw [F1 s e];exact hlt
 have H4:Hid (∀s,s3=.inl s->0<s.2.1):=fun s e=>by rw [(F4 s e).1];omega
 have HK:Hid (∀W,Cl 15 #[rdV (.slice At E.l.length ct) i z d (.slice B L.length cB) 0 0] W (rB W (.bool true))):=fun W=>zaP At E.l.length ct i z d B L.length cB 0 0 W
 have HX:=BX.new W (.slice At E.l.length ct) i z d (.slice B L.length cB) 0 0;have HB:=hO HX.1;have HW:Hid (WS E z w0 (.slice At E.l.length ct) W 2 (.slice B L.length cB) ((W.alloc (rdO (.slice At E.l.length ct) i z d (.slice B L.length cB) 0 0)).alloc rdZ) s0 i d B L.length cB 0 0):=by
  rw [hs0];exact WS.new h HX.2 (by rw [sA,sA];omega)
 have HBg:Hid (∀W,Rv E z w0 (.slice At E.l.length ct) W s0 i d B L.length cB 0 0->Cl 74 #[rdV (.slice At E.l.length ct) i z d (.slice B L.length cB) 0 0] W (rB W (.bool (bgn E i)))):=fun W h=>by
  rw [hs0] at h;exact zcz h.2.2.2.2.2 z d 0 hz
 have HKd:Hid (∀W,Rv E z w0 (.slice At E.l.length ct) W s0 i d B L.length cB 0 0->Cl 39 #[rdV (.slice At E.l.length ct) i z d (.slice B L.length cB) 0 0,.int .i64 0] W (rB W (.int .i64 (kdA E i)))):=fun W h=>by
  rw [hs0] at h;exact za4 h.2.2.2.2.2 z d 0 0 0 i (by omega) (by omega) hz
 have HS0:=hO hs0;have HOp:Hid (∀(W:World) (i d:Int) (A:Option Addr) (l c:Nat) (p q:Int),Rv E z w0 (.slice At E.l.length ct) W s0 i d A l c p q->Cl 98 #[rdV (.slice At E.l.length ct) i z d (.slice A l c) p q] W fun e W'=>Pu E z w0 (.slice At E.l.length ct) W (.slice A l c) s0 s1 e W'):=fun W i d A l c p q h=>by rw [hs1];exact zno h ⟨_,hs0⟩
 have HPr:Hid (∀(W:World) (i d:Int) (A:Option Addr) (l c:Nat) (p q:Int),Rv E z w0 (.slice At E.l.length ct) W s2 i d A l c p q->Cl 73 #[rdV (.slice At E.l.length ct) i z d (.slice A l c) p q] W fun e W'=>Pu E z w0 (.slice At E.l.length ct) W (.slice A l c) s2 s3 e W'):=fun W i' d' A l c p q h=>by
  rw [hs3];refine anyU (m:=4) (zo8 At E.l.length ct) h (by decide) fun s e=>?_
  rw [F2 s e];exact ⟨HP,by show L.length<=10027010 * (i+1);omega⟩
 have HPu:Hid (∀(W:World) (i d:Int) (A:Option Addr) (l c:Nat) (p q:Int),Rv E z w0 (.slice At E.l.length ct) W s5 i d A l c p q->Cl 54 #[rdV (.slice At E.l.length ct) i z d (.slice A l c) p q,T.ndG (nd0 op)] W fun e W'=>Pu E z w0 (.slice At E.l.length ct) W (.slice A l c) s5 s6 e W'):=fun W i d A l c p q h=>by
  rw [hs6];refine putU h (nd0 op) fun s e=>?_
  rw [hs5] at e;obtain ⟨t,e1,e2⟩:=zkO e;rw [e2];exact (F4 _ e1).2
 rw [<-hs0,<-hs1,<-hs2,<-hs3,<-hs5,<-hs6];have HS2:Hid (upS s1=s2):=hs2.symm;have HS5:Hid (dnS s3=s5):=hs5.symm;have HZ:Hid (E.l.length<=1000000):=hz;rw [hb] at HBg;clear hs0 hs1 hs2 hs3 hs5 hs6 F1 F2 F4 HX h hL HP hE hlt hlen hz hi hb hop
 rcases hk with ⟨hk,rfl⟩ | ⟨hk,rfl⟩
 all_goals
  rw [hk] at HKd;clear hk;go_enter Tryz.func73,Tryz.ntmps73;go_wp2_with fail;generalize (W.alloc (rdO (.slice At E.l.length ct) i z d (.slice B L.length cB) 0 0)).alloc rdZ=w1 at *;refine (HK _).mono ?_;rintro e w2 ⟨rfl,hb⟩;have HB2:=hO (HB.later hb);have HW2:=hO (HW.later hb);clear hb HK HW HB;obtain ⟨k0,k1,k2,k3,k4,k5,k6⟩:=HB2.s.cl;go_wp2_with fail;refine (HBg _ HW2.rv).mono ?_;rintro e w3 ⟨rfl,hb⟩;have HB3:=hO (HB2.later hb);have HW3:=hO (HW2.later hb);clear hb HBg HW2 HB2 k0 k1 k2 k3 k4 k5 k6;obtain ⟨k0,k1,k2,k3,k4,k5,k6⟩:=HB3.s.cl;go_wp2_with fail;refine (HKd _ HW3.rv).mono ?_;rintro e w4 ⟨rfl,hb⟩;have HB4:=hO (HB3.later hb);have HW4:=hO (HW3.later hb);clear hb HKd HW3 HB3 k0 k1 k2 k3 k4 k5 k6;obtain ⟨k0,k1,k2,k3,k4,k5,k6⟩:=HB4.s.cl;go_wp2_with fail;refine (HOp _ _ _ _ _ _ _ _ HW4.rv).mono ?_;rintro e w5 ⟨i5,d5,A5,l5,c5,p5,q5,rfl,hr,hf⟩;have HB5:=hO (HB4.kept (HW4.keep hf));have HW5:=hO (HW4.call hr hf);clear hr hf HOp HW4 HB4 k0 k1 k2 k3 k4 k5 k6;obtain ⟨k0,k1,k2,k3,k4,k5,k6⟩:=HB5.s.cl;obtain ⟨f0,f1,f2,f3,f4,f5,f6⟩:=HB5.s.fzs
  obtain ⟨v5,hv5⟩:∃w,(((((((w5.setCell ⟨W.heap.size,0,none⟩ (.slice At E.l.length ct)).setCell ⟨W.heap.size,1,none⟩ (.int .i64 i5)).setCell ⟨W.heap.size,2,none⟩ (.int .i64 z)).setCell ⟨W.heap.size,3,none⟩ (.int .i64 d5)).setCell ⟨W.heap.size,4,none⟩ (.slice A5 l5 c5)).setCell ⟨W.heap.size,5,none⟩ (.int .i64 p5)).setCell ⟨W.heap.size,6,none⟩ (.int .i64 q5))=w:=⟨_,rfl⟩;have HBs:Hid (BX W.heap.size v5 (.slice At E.l.length ct) i5 z d5 (.slice A5 l5 c5) p5 q5):=by rw [<-hv5];exact HB5.st _ _ _ _ _ _ _
  have HWs:Hid (WS E z w0 (.slice At E.l.length ct) W 2 (.slice B L.length cB) v5 s1 i5 d5 A5 l5 c5 p5 q5):=by rw [<-hv5];exact HW5.st7 (nL _) (by omega) _ _ _ _ _ _ _
  have HEs:=hO hv5;obtain ⟨h0,h1,h2,h3,h4,h5,h6⟩:=HBs.s.cl;obtain ⟨g0,g1,g2,g3,g4,g5,g6⟩:=HBs.s.fzs;clear hv5 HB5 HW5;obtain ⟨j2,hj2⟩:∃j,IntKind.i64.wrap (i5+1)=j:=⟨_,rfl⟩;go_wp2_with (rw [HEs.out])
  have HB6:=hO (HBs.s1 j2);have HW6:=hO ((HWs.set (nL _) (by omega) 1 (.int .i64 j2)).up H1.out HZ.out);rw [HS2.out,hj2] at HW6;clear hj2 HBs HWs HEs k0 k1 k2 k3 k4 k5 k6 f0 f1 f2 f3 f4 f5 f6 h0 h1 h2 h3 h4 h5 h6 g0 g1 g2 g3 g4 g5 g6;refine (HPr _ _ _ _ _ _ _ _ HW6.rv).mono ?_;rintro e w7 ⟨i7,d7,A7,l7,c7,p7,q7,rfl,hr,hf⟩;have HB7:=hO (HB6.kept (HW6.keep hf));have HW7:=hO (HW6.call hr hf);clear hr hf HPr HW6 HB6;obtain ⟨k0,k1,k2,k3,k4,k5,k6⟩:=HB7.s.cl;obtain ⟨f0,f1,f2,f3,f4,f5,f6⟩:=HB7.s.fzs;obtain ⟨v7,hv7⟩:∃w,(((((((w7.setCell ⟨W.heap.size,0,none⟩ (.slice At E.l.length ct)).setCell ⟨W.heap.size,1,none⟩ (.int .i64 i7)).setCell ⟨W.heap.size,2,none⟩ (.int .i64 z)).setCell ⟨W.heap.size,3,none⟩ (.int .i64 d7)).setCell ⟨W.heap.size,4,none⟩ (.slice A7 l7 c7)).setCell ⟨W.heap.size,5,none⟩ (.int .i64 p7)).setCell ⟨W.heap.size,6,none⟩ (.int .i64 q7))=w:=⟨_,rfl⟩;have HBs:Hid (BX W.heap.size v7 (.slice At E.l.length ct) i7 z d7 (.slice A7 l7 c7) p7 q7):=by rw [<-hv7];exact HB7.st _ _ _ _ _ _ _
  have HWs:Hid (WS E z w0 (.slice At E.l.length ct) W 2 (.slice B L.length cB) v7 s3 i7 d7 A7 l7 c7 p7 q7):=by rw [<-hv7];exact HW7.st7 (nL _) (by omega) _ _ _ _ _ _ _
  have HEs:=hO hv7;obtain ⟨h0,h1,h2,h3,h4,h5,h6⟩:=HBs.s.cl;obtain ⟨g0,g1,g2,g3,g4,g5,g6⟩:=HBs.s.fzs;clear hv7 HB7 HW7;obtain ⟨j6,hj6⟩:∃j,IntKind.i64.wrap (d7 - 1)=j:=⟨_,rfl⟩;go_wp2_with (rw [HEs.out])
  have HB8:=hO (HBs.s3 j6);have HW8:=hO ((HWs.set (nL _) (by omega) 3 (.int .i64 j6)).dn H4.out);rw [HS5.out,hj6] at HW8;clear hj6 HBs HWs HEs k0 k1 k2 k3 k4 k5 k6 f0 f1 f2 f3 f4 f5 f6 h0 h1 h2 h3 h4 h5 h6 g0 g1 g2 g3 g4 g5 g6;refine (HPu _ _ _ _ _ _ _ _ HW8.rv).mono ?_;rintro e w9 ⟨i9,d9,A9,l9,c9,p9,q9,rfl,hr,hf⟩;have HB9:=hO (HB8.kept (HW8.keep hf));have HW9:=hO (HW8.call hr hf);clear hr hf HPu HW8 HB8;obtain ⟨k0,k1,k2,k3,k4,k5,k6⟩:=HB9.r.cl;obtain ⟨f0,f1,f2,f3,f4,f5,f6⟩:=HB9.r.fzs;go_wp2_with fail;refine zaV (s:=2) rfl rfl rfl (zaH HB9.r _ _ _ _ _ _ _) ?_;rw [HS0.out];exact (HW9.st7 (by omega) (by omega) _ _ _ _ _ _ _).pu _
theorem zhX {E:PE} (hE:OkE E) {z:Nat} {w0:World} {tv:Value} {i d:Nat} (HP:i<E.l.length->Cd 73 E z w0 tv (i+1) (d+1) (gN E 4 (i+1) (d+1))) (HS:bgP E i=true->Cd 97 E z w0 tv i d (gS E i d)):Cd 73 E z w0 tv i d (gN E 4 i d):=by
 intro W v L h hL;have HG:=g4 E i d h.hi;by_cases c8:kdA E i=8
 ·have hV:gN E 4 i d=rA E i d 12:=by
   rw [HG,iP (by unfold bgn;rw [c8];rfl),iP (.inl c8),show (if kdA E i=8 then (12:Int) else 13)=12 from iP c8];rfl
  rw [hV];exact zkS hE (by decide) (.inl ⟨c8,rfl⟩) (HP (za9 (by omega))) W v L h hL
 by_cases c9:kdA E i=9
 ·have hV:gN E 4 i d=rA E i d 13:=by
   rw [HG,iP (by unfold bgn;rw [c9];rfl),iP (.inr c9),show (if kdA E i=8 then (12:Int) else 13)=13 from iN c8];rfl
  rw [hV];exact zkS hE (by decide) (.inr ⟨c9,rfl⟩) (HP (za9 (by omega))) W v L h hL
 have hbP:bgn E i=bgP E i:=by rw [zhE,bF c8,bF c9];rfl
 by_cases hb:bgn E i=true
 ·have hV:gN E 4 i d=gS E i d:=by
   rw [HG,hbP,iN (by omega:¬(kdA E i=8∨kdA E i=9))];rfl
  have h1:=zmB hE hb c8 c9 (HS (hbP▸hb)) (fun q hq=>by
   rw [<-hV] at hq;have:=(zbA h.hi (by omega) hq).2;omega) W v L h hL
  rw [hV];exact h1
 ·rw [HG,iN hb]
  exact zpb hE (Bool.eq_false_iff.2 hb) W v L h
end Go.Proofs.YtkihfkcmcdiajabGreatDoor.N
namespace Go.Proofs.YtkihfkcmcdiajabGreatDoor.R
open Go.RowKit
theorem RR.base {W:World} {A B:Nat} {v:Value} {ss:List zaY} {xs:List Value} (h:RR W B v ss xs) (hab:A<=B):RR W A v ss xs :=
 ⟨za7 h.o hab,h.len,fun i x s hx hs=>⟨za7 (h.each i x s hx hs).1 hab,(h.each i x s hx hs).2⟩,h.apart⟩
structure Under (N:Nat) (v:Value) (xs:List Value):Prop where
 v:∀k,v.ownBlock=some k->k<N
 x:∀(i:Nat) y k,xs[i]?=some y->y.ownBlock=some k->k<N
theorem RR.under {W:World} {B:Nat} {v:Value} {ss:List zaY} {xs:List Value} (h:RR W B v ss xs):Under W.heap.size v xs :=
 ⟨fun k e=>(h.o.lt k e).2,fun i y k hy e=>by obtain ⟨g,hg,_,hlt⟩:=h.lt hy;rw [hg] at e;cases e;exact hlt⟩
theorem zfU {α:Type} {a b:List α} {i:Nat} {x:α} (h:(a++b)[i]?=some x):(i<a.length/\a[i]?=some x)∨(a.length<=i/\b[i - a.length]?=some x):=by
 by_cases q:i<a.length
 ·rw [List.getElem?_append_left q] at h;exact .inl ⟨q,h⟩
 ·rw [List.getElem?_append_right (by omega)] at h;exact .inr ⟨by omega,h⟩
theorem RR.join {W W1:World} {B N:Nat} {v v2 v':Value} {ss ss2:List zaY} {xs xs2:List Value} (h:RR W B v ss xs) (hu:Under N v xs) (h2:RR W N v2 ss2 xs2) (hBN:B<=N)
  (hown:W1.ownsRow B 157 1 v' (xs.length+xs2.length) (xs++xs2)) (hgrow:W.grownBy W1 v.ownBlock) (hat:∀k,v'.ownBlock=some k->v.ownBlock=some k∨W.heap.size<=k):RR W1 B v' (ss++ss2) (xs++xs2):=by
 have hne:∀(x:Value) k,x.ownBlock=some k->k<W.heap.size->x.ownBlock≠v.ownBlock->x.ownBlock≠v'.ownBlock:=fun x k hk hlt hv e=>by
  rcases hat k (by rw [<-e];exact hk) with q | q
  ·exact hv (by rw [hk,q])
  ·omega
 have hfar:∀(i:Nat) y,xs2[i]?=some y->∃k,y.ownBlock=some k/\N<=k/\k<W.heap.size:=fun i y hy=>h2.lt hy
 refine ⟨by rw [lA];exact hown,by rw [lA,lA,h.len,h2.len],?_,?_⟩
 ·intro i x t hx ht
  rcases zfU hx with ⟨hi,hx⟩ | ⟨hi,hx⟩
  ·rw [List.getElem?_append_left (by rw [<-h.len];exact hi)] at ht
   obtain ⟨e1,e2,e3⟩:=h.each i x t hx ht;obtain ⟨k,hk,_,hlt⟩:=h.lt hx;exact ⟨e1.kept hgrow (.inr e3),e2,hne x k hk hlt e3⟩
  ·rw [List.getElem?_append_right (by rw [<-h.len];exact hi),<-h.len] at ht
   obtain ⟨e1,e2,_⟩:=h2.each _ x t hx ht;obtain ⟨k,hk,hNk,hlt⟩:=hfar _ x hx;have e3:x.ownBlock≠v.ownBlock:=fun e=>by have:=hu.v k (by rw [<-e];exact hk);omega
   exact ⟨za7 (e1.kept hgrow (.inr e3)) hBN,e2,hne x k hk hlt e3⟩
 ·intro i j x z hx hz hij
  rcases zfU hx with ⟨hi,hx⟩ | ⟨hi,hx⟩
  ·rcases zfU hz with ⟨hj,hz⟩ | ⟨hj,hz⟩
   ·exact h.apart i j x z hx hz hij
   ·obtain ⟨k,hk,hNk,_⟩:=hfar _ z hz
    intro e;have:=hu.x i x k hx (by rw [e];exact hk);omega
  ·rcases zfU hz with ⟨hj,hz⟩ | ⟨hj,hz⟩
   ·obtain ⟨k,hk,hNk,_⟩:=hfar _ x hx
    intro e;have:=hu.x j z k hz (by rw [<-e];exact hk);omega
   ·exact h2.apart _ _ x z hx hz (by omega)
theorem zfV (w:World) {B N:Nat} {v v2:Value} {ss ss2:List zaY} {xs xs2:List Value} (ty:TypeId) (h:RR w B v ss xs) (hu:Under N v xs) (h2:RR w N v2 ss2 xs2) (hBN:B<=N) (hN:N<=w.heap.size) (hl:ss.length+ss2.length<=4000000) :
  ∃v' w',(Builtin.append_ #[154,154] ty #[v,v2]).run Tryz.prog w=.ok v' w'/\RR w' B v' (ss++ss2) (xs++xs2)/\w.grownBy w' v.ownBlock/\∀k,v'.ownBlock=some k->v.ownBlock=some k∨w.heap.size<=k:=by
 obtain ⟨i0,hinf,hz0,hz1,hz2⟩:=info_parts Tryz.info54;have hlx:=h.len;have hlx2:=h2.len
 rcases h2.o.2 with ⟨rfl,h0⟩ | ⟨g2,c2,cur,rfl,_⟩
 ·have hnil:xs2=[]:=List.eq_nil_of_length_eq_zero h0
  subst hnil;have hss:ss2=[]:=List.eq_nil_of_length_eq_zero (by rw [<-h2.len];rfl);subst hss;have hr:=run_append_owned_none (P:=Tryz.prog) w B 154 ty 157 i0 1 Tryz.underlying154 hinf v xs.length xs h.o;exact ⟨v,w,hr,by rw [List.append_nil,List.append_nil];exact h,World.grownBy.refl _ _,fun k e=>.inl e⟩
 ·have hc:=h2.o.cells (g:=g2) rfl
  have h1c:∀u∈xs2,u.oneCell'=true:=fun u hu2=>by
   obtain ⟨i,hi,rfl⟩:=List.getElem_of_mem hu2;obtain ⟨e1,e2,_⟩:=h2.each i _ _ (gE hi) (gE (by rw [<-hlx2];exact hi))
   rcases e1.2 with ⟨q,_⟩ | ⟨_,_,_,q,_⟩
   ·rw [q] at e2;exact absurd rfl e2
   ·rw [q];rfl
  obtain ⟨v',w',hr,ho,hg,_,hat⟩:=run_append_own_at (P:=Tryz.prog) w B 154 ty 157 i0 (.slice none 0 0) 1 24 Tryz.underlying154 hinf hz0 hz1 hz2 rfl (by decide) v xs.length xs h.o ⟨g2,0,none⟩ xs2.length c2 xs2 (by omega) hc h1c (by unfold maxLen;omega) (by omega) (by omega);have hat2:∀k,v'.ownBlock=some k->v.ownBlock=some k∨w.heap.size<=k:=fun k e=>by
   rcases hat with q | q
   ·exact .inl (by rw [<-q];exact e)
   ·rw [q] at e;cases e;exact .inr (nL _)
  exact ⟨v',w',hr,h.join hu h2 hBN ho hg hat2,hg,hat2⟩
theorem zd8 {w:World} {o:Oper} {a:Act} {K:Act->World->Prop} {Q:Exit->Act->World->Prop} (s x:Operand)
  (ho:o.op=.call { callee:=.builtin .append,args:=#[s,x],argTypes:=#[154,154] }) {B N:Nat} {v v2:Value} {ss ss2:List zaY} {xs xs2:List Value} (hs:a.eval s=v) (hx:a.eval x=v2)
  (h:RR w B v ss xs) (hu:Under N v xs) (h2:RR w N v2 ss2 xs2) (hBN:B<=N) (hN:N<=w.heap.size) (hl:ss.length+ss2.length<=4000000)
  (hk:∀v' w',RR w' B v' (ss++ss2) (xs++xs2)->w.grownBy w' v.ownBlock->(∀k,v'.ownBlock=some k->v.ownBlock=some k∨w.heap.size<=k)->K (a.put o.dst v') w'):o.wp Tryz.prog a w K Q:=by
 obtain ⟨v',w',hr,h3,h4,h5⟩:=zfV w o.type h hu h2 hBN hN hl;unfold Oper.wp execOp;simp only [ho,resolve,invoke,builtin,Sem.run_bind,Sem.run_pure,Result.andThen_ok,List.map_toArray,List.map_cons,List.map_nil,hs,hx,hr];exact hk v' w' h3 h4 h5
theorem zcC {w:World} {ops:Array Oper} {rest:List Oper} {o:Oper} {a:Act} {Q:Exit->Act->World->Prop} (hgd:o.guard=none) (s x:Operand)
  (ho:o.op=.call { callee:=.builtin .append,args:=#[s,x],argTypes:=#[154,154] }) {B N:Nat} {v v2:Value} {ss ss2:List zaY} {xs xs2:List Value} (hs:a.eval s=v) (hx:a.eval x=v2)
  (h:RR w B v ss xs) (hu:Under N v xs) (h2:RR w N v2 ss2 xs2) (hBN:B<=N) (hN:N<=w.heap.size) (hl:ss.length+ss2.length<=4000000)
  (hk:∀v' w',RR w' B v' (ss++ss2) (xs++xs2)->w.grownBy w' v.ownBlock->(∀k,v'.ownBlock=some k->v.ownBlock=some k∨w.heap.size<=k)->wpList Tryz.prog ops Q rest (a.put o.dst v') w'):wpList Tryz.prog ops Q (o::rest) a w :=
 wpList_plain hgd fun _ hK=>zd8 s x ho hs hx h hu h2 hBN hN hl fun v' w' h3 h4 h5=>hK _ _ (hk v' w' h3 h4 h5)
theorem ze4 {w:World} {ops:Array Oper} {o:Oper} {a:Act} {K:Act->World->Prop} {Q:Exit->Act->World->Prop} {E:Prop} (hgd:o.guard=none) (s x:Operand)
  (ho:o.op=.call { callee:=.builtin .append,args:=#[s,x],argTypes:=#[154,154] }) {B N:Nat} {v v2:Value} {ss ss2:List zaY} {xs xs2:List Value} (hs:a.eval s=v) (hx:a.eval x=v2)
  (h:RR w B v ss xs) (hu:Under N v xs) (h2:RR w N v2 ss2 xs2) (hBN:B<=N) (hN:N<=w.heap.size) (hl:ss.length+ss2.length<=4000000)
  (hk:∀v' w',RR w' B v' (ss++ss2) (xs++xs2)->w.grownBy w' v.ownBlock->(∀k,v'.ownBlock=some k->v.ownBlock=some k∨w.heap.size<=k)->K (a.put o.dst v') w') :
  if Region.wanted o (yielded ops a.tmps)=true then Oper.wp Tryz.prog o a w K Q else E:=by
 have hw:Region.wanted o (yielded ops a.tmps)=true:=by simp [Region.wanted,hgd]
 rw [iP hw];exact zd8 s x ho hs hx h hu h2 hBN hN hl hk
def PcS (lo hi:Int):Prop:=∀w:World,Cl 168 #[.int .i64 lo,.int .i64 hi] w fun e w'=>(∃v xs,e=.returned v/\RR w' w.heap.size v (shs lo hi) xs)/\bW w w'
structure AtE (w wr:World) (v:Value) (s:zaY):Prop where
 o:wr.ownsRow w.heap.size 159 2 v s.length (spc s)
 b:bW w wr
theorem RR.one {W:World} {B:Nat} {y:Value} {s:zaY} (hB:B<=W.heap.size) (hy:W.ownsRow B 159 2 y s.length (spc s)) (hs:0<s.length):RR (W.alloc (.cells #[y] 157)) B (.slice (some ⟨W.heap.size,0,none⟩) 1 1) [s] [y]:=by
 obtain ⟨g,cap,hg,_,hlt⟩:=hy.form hs;refine ⟨⟨rfl,.inr ⟨W.heap.size,1,#[y],rfl,hB,heap_alloc_new W _,nL _,by unfold maxLen;omega,rfl,rfl⟩⟩,rfl,?_,?_⟩
 ·intro i x t hx ht
  match i,hx,ht with
  | 0,hx,ht =>
   cases hx
   cases ht
   refine ⟨hy.alloc _,by rw [hg];simp [Value.ownBlock],?_⟩;rw [hg];intro e;have e2:g=W.heap.size:=Option.some.inj e;omega
 ·intro i j x z hx hz hij
  match i,j,hx,hz with
  | 0,0,_,_=>exact absurd rfl hij
theorem zeO (lo hi:Int) (h:Blk lo hi) (hc:∀c,zdq lo hi=some c->PcS lo (c - 1)/\PcS c hi):PcS lo hi:=by
 intro w;obtain ⟨i0,hinf,hz0,hz1,hz2⟩:=info_parts Tryz.info56;have h0:=h.cpl.2.2.2.1;have h1:=h.cpl.2.2.2.2.1;have h2:=h.cpl.2.2.2.2.2;have HSz:Hid (∀w,Cl 173 #[.int .i64 lo] w (rU w (.int .i64 (szI lo:Int)))):=fun w=>zcL lo w
 have hsz:=zeD lo;have HC1:Hid (∀w,Cl 174 #[.int .i64 lo] w (rB w (.string (Utf8.encode lo)))):=fun w=>zge lo h.cpl.1 w
 have HC2:Hid (∀w,Cl 174 #[.int .i64 hi] w (rB w (.string (Utf8.encode hi)))):=fun w=>zge hi h.cpl.2.1 w
 have HG:Hid (∀k,k<szI lo->(shp (lo,hi)).take (k+1)=(shp (lo,hi)).take k++[(chr (Utf8.encode lo) k,chr (Utf8.encode hi) k)]):=fun k hk=>zhI h k hk
 have HL:Hid ((shp (lo,hi)).length=szI lo):=zfD h;have HX:Hid ((Utf8.encode lo).size=szI lo/\(Utf8.encode hi).size=szI lo):=⟨zek h.cpl.1,by rw [zek h.cpl.2.1,<-h.cpl.2.2.1]⟩;have HN:Hid (zdq lo hi=none->shs lo hi=[shp (lo,hi)]):=fun e=>zhG e
 have HS:Hid (∀c,zdq lo hi=some c->(lo<c/\c<=hi)/\shs lo hi=shs lo (c - 1)++shs c hi/\PcS lo (c - 1)/\PcS c hi):=fun c e=>⟨zbr h0 h1 e,zhH h0 h1 e,hc c e⟩
 generalize hR:zdq lo hi=R at *;have HR:Hid (zcD lo hi (szI lo - 1) 1=R):=hR;generalize szI lo=K at *;generalize Utf8.encode lo=X at *;generalize Utf8.encode hi=Y at *;generalize shp (lo,hi)=S at *;clear hR h hc;have hnl:decide (hi<lo)=false:=dF (by omega);go_enter Tryz.func168,Tryz.ntmps168;go_wp2_with fail;go_loopw [5,6] (fun t u wr=>∃k:Nat,∃m:Int,t=.int .i64 m/\u=.int .i64 k/\(1<=k/\k<=K)/\Hid ((k=1/\m=1)∨(k=2/\m=64)∨(k=3/\m=4096)∨k=4)/\Hid (zcD lo hi (K - k) m=R)/\Hid (bW w wr)) (fun _ u _=>5 - (intOf u).toNat)
 case atStart=>exact ⟨1,1,rfl,rfl,by omega,.inl ⟨rfl,rfl⟩,HR,bR _ _⟩
 case round =>
  obtain ⟨k,m,rfl,rfl,⟨hk1,hk2⟩,HM,HK,HW⟩:=hrel;clear HR;by_cases hlt:k<K
  ·have hlt2:(k:Int)<(K:Int):=by omega
   obtain ⟨m',hm',hmm⟩:∃m':Int,m'=m * 64/\(m'=64∨m'=4096∨m'=262144):=⟨_,rfl,by have e:=HM.out;omega⟩;have HM2:Hid ((k+1=1/\m'=1)∨(k+1=2/\m'=64)∨(k+1=3/\m'=4096)∨k+1=4):=(by show _∨_;have e:=HM.out;omega)
   have hwm:IntKind.i64.wrap (m * 64)=m':=by rw [<-hm',wI];rcases hmm with rfl | rfl | rfl <;> rfl
   have HKn:=(show Hid (zb8 lo hi m'=none->zcD lo hi (K - (k+1)) m'=R) from fun e=>by
    have e2:=HK.out;rw [hm'] at e;rw [show K - k=(K - (k+1))+1 from by omega,zfe e,<-hm'] at e2;exact e2)
   have HKs:=(show Hid (∀c,zb8 lo hi m'=some c->(lo<c/\c<=hi)/\shs lo hi=shs lo (c - 1)++shs c hi/\PcS lo (c - 1)/\PcS c hi) from fun c e=>by
    have e2:=HK.out;rw [hm'] at e;rw [show K - k=(K - (k+1))+1 from by omega,zff e] at e2;exact HS c e2.symm)
   have hpos:0<m'/\m'<=262144:=by omega
   have hm0:m'≠0:=by omega
   have q1:lo.tdiv m'=lo / m':=Int.tdiv_eq_ediv_of_nonneg h0;have q2:hi.tdiv m'=hi / m':=Int.tdiv_eq_ediv_of_nonneg (by omega);have q3:lo.tmod m'=lo%m':=Int.tmod_eq_emod_of_nonneg h0;have q4:(hi+1).tmod m'=(hi+1)%m':=Int.tmod_eq_emod_of_nonneg (by omega)
   have b1:0<=lo / m'/\lo / m'<=lo:=by rcases hmm with rfl | rfl | rfl <;> omega
   have b2:0<=hi / m'/\hi / m'<=hi:=by rcases hmm with rfl | rfl | rfl <;> omega
   have b3:0<=lo%m'/\lo%m'<m':=by rcases hmm with rfl | rfl | rfl <;> omega
   have b4:0<=(hi+1)%m'/\(hi+1)%m'<m':=by rcases hmm with rfl | rfl | rfl <;> omega
   have HSq:Hid (zb8 lo hi m'=if lo / m'=hi / m' then none else if lo%m'≠0 then some ((lo / m'+1) * m') else if (hi+1)%m'≠0 then some (hi / m' * m') else none):=rfl;clear hm' HK HM hmm HS HN HG HL HX HC1 HC2;generalize lo / m'=a at *;generalize hi / m'=b at *;generalize lo%m'=x at *;generalize (hi+1)%m'=y at *;go_wp2_with fail;refine (HSz _).mono ?_;rintro e w0 ⟨rfl,rfl⟩;go_wp2_with fail;go_quiet (fail)
   have HW1:Hid (bW w (w0.drewN nq)):=HW.trans (below_drewN (bR _ _) _);generalize w0.drewN nq=w1 at *;clear HW HSz;by_cases hab:a=b
   ·have HN:=hO (HKn (by rw [HSq.out,iP hab]))
    clear HKn HKs HSq;subst hab;go_wp2
    go_roundw
    case rel=>exact ⟨k+1,m',by go_num,by go_num,by omega,HM2,HN,HW1⟩
    case measure=>simp [intOf];omega
   ·have eab:(a==b)=false:=bF hab
    by_cases hx:x=0
    ·have ex:(x != 0)=false:=by rw [hx];rfl
     by_cases hy:y=0
     ·have HN:=hO (HKn (by rw [HSq.out,iN hab,iN (by omega),iN (by omega)]))
      have ey:(y != 0)=false:=by rw [hy];rfl
      clear HKn HKs HSq hab hx hy;go_wp2
      go_roundw
      case rel=>exact ⟨k+1,m',by go_num,by go_num,by omega,HM2,HN,HW1⟩
      case measure=>simp [intOf];omega
     ·obtain ⟨⟨hb1,hb2⟩,hE,hP1,hP2⟩:=HKs (b * m') (by rw [HSq.out,iN hab,iN (by omega),iP hy])
      have ey:(y != 0)=true:=bne_iff_ne.2 hy;have HE:=hO hE;have HP1:=hO hP1;have HP2:=hO hP2;have v1:IntKind.i64.wrap (b * m')=b * m':=by rw [wI];omega
      have v2:IntKind.i64.wrap (b * m' - 1)=b * m' - 1:=by rw [wI];omega
      have hll1:=zdS (lo:=lo) (hi:=b * m' - 1) h0 (by omega);have hll2:=zdS (lo:=b * m') (hi:=hi) (by omega) hb2;have HLL:Hid ((shs lo (b * m' - 1)).length+(shs (b * m') hi).length<=4000000):=(by show _<=_;omega);clear HKn HKs HSq hab hx hy hE hP1 hP2 hll1 hll2;go_wp2_with fail;refine (HP1 _).mono ?_;rintro e w2 ⟨⟨u1,xs1,rfl,hR1⟩,hb2'⟩;have HR1:=hO hR1;have HB2:=hO hb2';clear hR1 hb2' HP1;go_wp2_with fail;refine (HP2 _).mono ?_;rintro e w3 ⟨⟨u2,xs2,rfl,hR2⟩,hb3⟩;have hR3:=HR1.below hb3;have hU:=HR1.under;have HB3:Hid (bW w w3):=HW1.trans ((HB2.mono HW1.size).trans (hb3.mono (Nat.le_trans HW1.size HB2.size)));have hz3:=hb3.size;have hz2:=HB2.size;have hz1:=HW1.size;clear hb3 HB2 HP2;go_wp2_with (at_builtin;refine zcC rfl _ _ rfl rfl rfl hR3 hU hR2 hz2 hz3 HLL.out ?_)
      intro v' w4 hR4 hg4 hk4;have HR4:Hid (RR w4 w.heap.size v' (shs lo hi) (xs1++xs2)):=(by rw [HE.out];exact hR4.base hz1);have HB4:Hid (bW w w4):=HB3.grown hg4 (by omega) (fun j e=>by have:=(HR1.o.lt j e).1;omega);clear hR4 hg4 hk4 hR2 hR3 hU HR1 HB3;go_wp2
      go_ret
      exact ⟨⟨_,_,rfl,HR4.out⟩,HB4.out⟩
    ·obtain ⟨⟨hb1,hb2⟩,hE,hP1,hP2⟩:=HKs ((a+1) * m') (by rw [HSq.out,iN hab,iP hx])
     have ex:(x != 0)=true:=bne_iff_ne.2 hx;have HE:=hO hE;have HP1:=hO hP1;have HP2:=hO hP2;have v1:IntKind.i64.wrap ((a+1) * m')=(a+1) * m':=by rw [wI];omega
     have v2:IntKind.i64.wrap ((a+1) * m' - 1)=(a+1) * m' - 1:=by rw [wI];omega
     have hll1:=zdS (lo:=lo) (hi:=(a+1) * m' - 1) h0 (by omega);have hll2:=zdS (lo:=(a+1) * m') (hi:=hi) (by omega) hb2;have HLL:Hid ((shs lo ((a+1) * m' - 1)).length+(shs ((a+1) * m') hi).length<=4000000):=(by show _<=_;omega);clear HKn HKs HSq hab hx hE hP1 hP2 hll1 hll2;go_wp2_with fail;refine (HP1 _).mono ?_;rintro e w2 ⟨⟨u1,xs1,rfl,hR1⟩,hb2'⟩;have HR1:=hO hR1;have HB2:=hO hb2';clear hR1 hb2' HP1;go_wp2_with fail;refine (HP2 _).mono ?_;rintro e w3 ⟨⟨u2,xs2,rfl,hR2⟩,hb3⟩;have hR3:=HR1.below hb3;have hU:=HR1.under;have HB3:Hid (bW w w3):=HW1.trans ((HB2.mono HW1.size).trans (hb3.mono (Nat.le_trans HW1.size HB2.size)));have hz3:=hb3.size;have hz2:=HB2.size;have hz1:=HW1.size;clear hb3 HB2 HP2;go_wp2_with (at_builtin;refine zcC rfl _ _ rfl rfl rfl hR3 hU hR2 hz2 hz3 HLL.out ?_)
     intro v' w4 hR4 hg4 hk4;have HR4:Hid (RR w4 w.heap.size v' (shs lo hi) (xs1++xs2)):=(by rw [HE.out];exact hR4.base hz1);have HB4:Hid (bW w w4):=HB3.grown hg4 (by omega) (fun j e=>by have:=(HR1.o.lt j e).1;omega);clear hR4 hg4 hk4 hR2 hR3 hU HR1 HB3;go_wp2
     go_ret
     exact ⟨⟨_,_,rfl,HR4.out⟩,HB4.out⟩
  ·have HE:=hO (HN (by have e:=HK.out;rw [show K - k=0 from by omega] at e;exact e.symm))
   obtain rfl:k=K:=by omega
   clear HK HM HS HN;have hX1:=HX.1;have hX2:=HX.2;clear HX;have hXi:(X.size:Int)=(k:Int):=by omega
   go_wp2_with fail;refine (HSz _).mono ?_;rintro e w0 ⟨rfl,rfl⟩;go_wp2_with fail;refine (HC1 _).mono ?_;rintro e w1 ⟨rfl,hb1⟩;have HB1:Hid (bW w w1):=HW.trans (hb1.mono HW.size);clear hb1 HW HC1 HSz;go_wp2_with fail;refine (HC2 _).mono ?_;rintro e w2 ⟨rfl,hb2⟩;have HB2:Hid (bW w w2):=HB1.trans (hb2.mono HB1.size);clear hb2 HB1 HC2;go_wp2_with fail;go_loopw [11,12] (fun v t wr=>∃j:Nat,j<=k/\t=.int .i64 j/\Hid (AtE w wr v (S.take j))) (fun _ t _=>5 - (intOf t).toNat)
   case atStart=>exact ⟨0,by omega,by go_num,⟨World.ownsRow_nil _ _ _ _,HB2.out⟩⟩
   case round =>
    obtain ⟨j,hj,rfl,HW⟩:=hrel;clear HB2;by_cases hlt2:j<k
    ·have z0:(0:Int)<=(j:Int):=by omega
     have z1:(j:Int)<(X.size:Int):=by omega
     have z2:(j:Int)<(Y.size:Int):=by omega
     have z3:(j:Int)<(k:Int):=by omega
     have hxk:j<X.size:=by omega
     have hyk:j<Y.size:=by omega
     have HT:=hO (HG j hlt2);have e1:=zam hxk;have e2:=zam hyk;rw [e1,e2] at HT;clear e1 e2;have hO:=HW.o;have hbs:=HW.b.size;have HTl:Hid ((S.take j).length<=4):=(by show _<=_;have:=List.length_take_le j S;omega);have wa:IntKind.i64.wrap (X[j].toNat:Int)=(X[j].toNat:Int):=by have:=X[j].toNat_lt;rw [wI];omega
     have wb:IntKind.i64.wrap (Y[j].toNat:Int)=(Y[j].toNat:Int):=by have:=Y[j].toNat_lt;rw [wI];omega
     generalize hxx:(X[j].toNat:Int)=a at *;generalize hyy:(Y[j].toNat:Int)=b at *;generalize S.take j=T at *;go_wp2_with fail;go_region_held3 (fun _=>True) (trivial) ((refine step_append_lies _ (by rfl) _ _ _ (by rfl) w.heap.size 159 i0 _ 2 16 Tryz.underlying157 hinf hz0 hz1 hz2 rfl (by omega) _ _ (spc T) (by rfl) ((hO.alloc _).drew) ⟨wr.heap.size,0,none⟩ 1 1 [.int .i64 a,.int .i64 b] (by rfl) (by rfl) (World.news_of_block (cs:=#[.int .i64 a,.int .i64 b]) (t:=159) (fr:=(0,0)) (heap_alloc_new wr _)) (by simp [Value.oneCell']) (by omega) (by have:=HTl.out;unfold maxLen;omega) (by have:=HTl.out;omega) (by simp;omega) (wr.heap.size+1) (by simp) ?_;intro g cap w3 hown1 hgrow hat hltg))
     all_goals
      have hle:=fun j e=>(hO.lt j e).1
      have HW2:=(show Hid (AtE w w3 (.slice (some ⟨g,0,none⟩) (T.length+1) cap) (S.take (j+1))) from (by
       rw [HT.out];refine ⟨?_,((HW.b.alloc (by omega) (.cells #[.int .i64 a,.int .i64 b] 159)).drew).grown hgrow (by simp;omega) (fun j e=>by have:=hle j e;omega)⟩;rw [lA,zfg];exact hown1))
      clear hown1 hgrow hat hltg hO HT HTl HW hle hxx hyy wa wb;go_wp2
      go_roundw
      case rel=>exact ⟨j+1,by omega,by go_num,HW2⟩
      case measure=>simp [intOf];omega
    ·obtain rfl:j=k:=by omega
     have HEq:Hid (S.take j=S):=List.take_of_length_le (by have:=HL.out;omega);rw [HEq.out] at HW;obtain ⟨g0,cy,rfl,_,_⟩:=World.ownsRow.form HW.o (show 0<S.length by have:=HL.out;omega);have HRR:Hid (RR (wr.alloc (.cells #[.slice (some ⟨g0,0,none⟩) S.length cy] 157)) w.heap.size (.slice (some ⟨wr.heap.size,0,none⟩) 1 1) [S] [.slice (some ⟨g0,0,none⟩) S.length cy]):=RR.one HW.b.size HW.o (by have:=HL.out;omega);have HB:Hid (bW w (wr.alloc (.cells #[.slice (some ⟨g0,0,none⟩) S.length cy] 157))):=HW.b.alloc HW.b.size _;clear HG HL HEq HW;go_wp2
     go_ret
     exact ⟨⟨_,_,rfl,by rw [HE.out];exact HRR.out⟩,HB.out⟩
theorem zdV:∀(f:Nat) (lo hi:Int),Blk lo hi->(hi - lo).toNat<=f->PcS lo hi
 | 0,lo,hi,h,hf=>zeO lo hi h fun c hs=>by
  have:=zbr h.cpl.2.2.2.1 h.cpl.2.2.2.2.1 hs;omega
 | f+1,lo,hi,h,hf=>zeO lo hi h fun c hs=>by
  have:=zbr h.cpl.2.2.2.1 h.cpl.2.2.2.2.1 hs;exact ⟨zdV f lo (c - 1) (h.cut hs).1 (by omega),zdV f c hi (h.cut hs).2 (by omega)⟩
theorem zhg (lo hi:Int) (h:hi<lo) (w:World):Cl 168 #[.int .i64 lo,.int .i64 hi] w (rU w (.slice none 0 0)):=by
 go_enter Tryz.func168,Tryz.ntmps168;go_wp2
 go_ret
 exact ⟨rfl,rfl⟩
theorem zhh (lo hi:Int) (k:Nat) (b:Int×Int) (hb:blks[k]?=some b) (w:World) :
  Cl 168 #[.int .i64 (max lo b.1),.int .i64 (min hi b.2)] w fun e w'=>(∃v xs,e=.returned v/\RR w' w.heap.size v (zec lo hi b) xs)/\bW w w':=by
 unfold zec;rw [Int.max_comm lo b.1,Int.min_comm hi b.2];by_cases h:max b.1 lo<=min b.2 hi
 ·rw [iP h]
  exact zdV _ _ _ ((zfF hb).2.2.2 lo hi h) (nL _) w
 ·rw [iN h]
  exact (zhg _ _ (by omega) w).mono fun e w' ⟨h1,h2⟩=>⟨⟨_,[],h1,RR.nil _ _⟩,by rw [h2];exact bR _ _⟩
def tabO:Obj:=.cells #[.int .i64 0,.int .i64 127,.int .i64 128,.int .i64 2047,.int .i64 2048,.int .i64 55295,.int .i64 57344,.int .i64 65535,.int .i64 65536,.int .i64 1114111] 164
theorem zmC (w:World) (k:Nat) (b:Int×Int) (h:blks[k]?=some b):(w.alloc tabO).cell? ⟨w.heap.size,k * 2,none⟩=some (.int .i64 b.1)/\(w.alloc tabO).cell? ⟨w.heap.size,k * 2+1,none⟩=some (.int .i64 b.2):=by
 unfold tabO
 match k,h with
 | 0,h=>cases h;simp
 | 1,h=>cases h;simp
 | 2,h=>cases h;simp
 | 3,h=>cases h;simp
 | 4,h=>cases h;simp
theorem zeP {wr w2:World} (h:Below wr.drew.heap.size wr.drew w2):bW wr w2:=((bR wr.heap.size wr).drew).trans h
theorem zmD {wr w2 w3:World} {B k:Nat} {a b:Value} {row:Option Nat} (c0:wr.cell? ⟨B,k * 2,none⟩=some a) (c1:wr.cell? ⟨B,k * 2+1,none⟩=some b) (hlt:B<wr.heap.size) (hb:bW wr w2) (hg:w2.grownBy w3 row) (hne:row≠some B) :
  w3.cell? ⟨B,k * 2,none⟩=some a/\w3.cell? ⟨B,k * 2+1,none⟩=some b :=
 ⟨(hg.cell_far ⟨B,k * 2,none⟩ (nM hlt hb.size) (Ne.symm hne)).trans ((hb.cell (p:=⟨B,k * 2,none⟩) hlt).trans c0),(hg.cell_far ⟨B,k * 2+1,none⟩ (nM hlt hb.size) (Ne.symm hne)).trans ((hb.cell (p:=⟨B,k * 2+1,none⟩) hlt).trans c1)⟩
structure AtG (w wr:World) (v:Value) (ss:List zaY):Prop where
 r:∃xs,RR wr (w.heap.size+1) v ss xs
 lt:w.heap.size<wr.heap.size
 c:∀(k:Nat) b,blks[k]?=some b->wr.cell? ⟨w.heap.size,k * 2,none⟩=some (.int .i64 b.1)/\wr.cell? ⟨w.heap.size,k * 2+1,none⟩=some (.int .i64 b.2)
 b:bW w wr
theorem ziE (lo hi:Int) (h0:0<=lo) (h1:lo<=hi) (h2:hi<=1114111) (w:World) :
  Cl 156 #[.int .i64 lo,.int .i64 hi] w fun e w'=>(∃v xs,e=.returned (.tuple #[v,.int .i64 0])/\RR w' w.heap.size v (zcK lo hi) xs)/\bW w w':=by
 have HA:Hid (AtG w (w.alloc tabO) (.slice none 0 0) []):=⟨⟨[],RR.nil _ _⟩,by simp,fun k b h=>zmC w k b h,(bR _ _).alloc (nL _) _⟩;unfold tabO at HA;have d0:decide (lo<0)=false:=dF (by omega);have d1:decide (1114111<lo)=false:=dF (by omega);have d2:decide (hi<0)=false:=dF (by omega);have d3:decide (1114111<hi)=false:=dF (by omega);have d4:decide (hi<lo)=false:=dF (by omega);clear h0 h1 h2;go_enter Tryz.func156,Tryz.ntmps156;go_wp2_with fail;go_loopw [7,8] (fun v t wr=>∃k:Nat,k<=5/\t=.int .i64 k/\Hid (AtG w wr v (zfE lo hi k))) (fun _ t _=>6 - (intOf t).toNat)
 case atStart=>exact ⟨0,by omega,by go_num,HA⟩
 case round =>
  obtain ⟨k,hk,rfl,HW⟩:=hrel;clear HA;by_cases hk5:k<5
  ·obtain ⟨b,hb⟩:∃b,blks[k]?=some b:=⟨_,gE (by show k<5;exact hk5)⟩
   have HP:Hid (∀w,Cl 168 #[.int .i64 (max lo b.1),.int .i64 (min hi b.2)] w fun e w'=>(∃v xs,e=.returned v/\RR w' w.heap.size v (zec lo hi b) xs)/\bW w w'):=fun w=>zhh lo hi k b hb w
   have HT:=hO (zgb lo hi k b hb);obtain ⟨c0,c1⟩:=HW.c k b hb;have HLen:=(show Hid ((zfE lo hi k).length+(zec lo hi b).length<=4000000) from (by
    have e1:=zgd lo hi k b hb;have e2:=zfF hb;have e3:=zgc lo hi b e2.1 e2.2.1
    show _<=_
    omega))
   obtain ⟨xs,hR⟩:=HW.r;have HR:=hO hR;have hltw:=HW.lt;have HNe:Hid (u7.ownBlock≠some w.heap.size):=fun e=>by have:=(World.ownsRow.lt hR.o _ e).1;omega
   have HBw:=hO HW.b;have HCa:=hO HW.c;clear hR HW hb;obtain ⟨b1,b2⟩:=b;dsimp only at *;have z0:(0:Int)<=(k:Int):=by omega
   have z5:(k:Int)<5:=by omega
   go_wp2_with fail;go_region_held3 (fun w'=>w'.cell? ⟨w.heap.size,k * 2,none⟩=some (.int .i64 b1)/\w'.cell? ⟨w.heap.size,k * 2+1,none⟩=some (.int .i64 b2))
    (first | go_keep | exact ⟨(hb2.cell (p:=⟨w.heap.size,k * 2,none⟩) hltw).trans c0,(hb2.cell (p:=⟨w.heap.size,k * 2+1,none⟩) hltw).trans c1⟩ | exact zmD c0 c1 hltw (zeP hb2) hg3 HNe.out)
    (first | (go_at_call 168;with_reducible refine (HP.out _).mono ?_;rintro e w2 ⟨⟨v2,xs2,rfl,hR2⟩,hb2⟩) | (refine ze4 (by rfl) _ _ (by rfl) (by rfl) (by rfl) (HR.out.drew.below hb2) (HR.out.under) hR2 (by omega) hb2.size HLen.out ?_;intro v' w3 hR3 hg3 hk3))
   all_goals
    have HW3:=(show Hid (AtG w w3 v' (zfE lo hi (k+1))) from (by
     have k1:bW wr w2:=zeP hb2;have kb:∀j,j<wr.heap.size->u7.ownBlock≠some j->w3.heap[j]?=wr.heap[j]?:=fun j hj hn=>(hg3.block j (nM hj k1.size) (fun e=>hn e.symm)).trans (k1.block j hj)
     refine ⟨⟨xs++xs2,by rw [HT.out];exact hR3⟩,nM hltw (Nat.le_trans k1.size hg3.size),fun j b hj=>?_,(HBw.trans (k1.mono (by omega))).grown hg3 (by have:=k1.size;omega) (fun j e=>by have:=(World.ownsRow.lt HR.o j e).1;omega)⟩;have:=HCa j b hj;exact ⟨(World.cell?_of_block (a:=⟨w.heap.size,j * 2,none⟩) (kb w.heap.size hltw HNe.out)).trans this.1,(World.cell?_of_block (a:=⟨w.heap.size,j * 2+1,none⟩) (kb w.heap.size hltw HNe.out)).trans this.2⟩))
    clear hR3 hg3 hk3 hR2 hb2 HR HBw HCa HNe c0 c1;go_wp2
    go_roundw
    case rel=>exact ⟨k+1,by omega,by go_num,HW3⟩
    case measure=>simp [intOf];omega
  ·obtain rfl:k=5:=by omega
   rw [zds] at HW;obtain ⟨xs,hR⟩:=HW.r;have HR:Hid (RR wr w.heap.size u7 (zcK lo hi) xs):=hR.base (by omega);have b:=HW.b;clear hR HW;go_wp2
   go_ret2
   exact ⟨⟨_,xs,rfl,HR.out⟩,b⟩
theorem zhi (lo hi:Int) (w:World) :
  Cl 156 #[.int .i64 lo,.int .i64 hi] w fun e w'=>ShV w w' lo hi e/\bW w w':=by
 by_cases h0:0<=lo/\lo<=1114111
 ·by_cases h1:0<=hi/\hi<=1114111
  ·by_cases h2:lo<=hi
   ·refine (ziE lo hi h0.1 h2 h1.2 w).mono fun e w' ⟨h3,h4⟩=>⟨?_,h4⟩
    unfold ShV;rw [iP ⟨zdp h0,zdp h1⟩,iP h2];exact h3
   ·have HE:=(show Hid (∀w' e,e=.returned (.tuple #[.slice none 0 0,.int .i64 1])->ShV w w' lo hi e) from fun w' e he=>by
     unfold ShV;rw [iP ⟨zdp h0,zdp h1⟩,iN h2];exact he)
    have h3:hi<lo:=by omega
    have d0:decide (lo<0)=false:=dF (by omega);have d1:decide (1114111<lo)=false:=dF (by omega);have d2:decide (hi<0)=false:=dF (by omega);have d3:decide (1114111<hi)=false:=dF (by omega);clear h0 h1 h2;go_enter Tryz.func156,Tryz.ntmps156;go_wp2
    go_ret2
    exact ⟨HE _ _ rfl,bR _ _⟩
  ·have HE:=(show Hid (∀w' e,e=.returned (.tuple #[.slice none 0 0,.int .i64 30])->ShV w w' lo hi e) from fun w' e he=>by
    unfold ShV;rw [iN (by rw [zga h1];simp)];exact he)
   have d0:decide (lo<0)=false:=dF (by omega);have d1:decide (1114111<lo)=false:=dF (by omega);have h3:hi<0∨(0<=hi/\1114111<hi):=by omega
   clear h0 h1
   rcases h3 with h3 | ⟨h3,h4⟩
   ·go_enter Tryz.func156,Tryz.ntmps156
    go_wp2
    go_ret2
    exact ⟨HE _ _ rfl,bR _ _⟩
   ·have d2:decide (hi<0)=false:=dF (by omega)
    go_enter Tryz.func156,Tryz.ntmps156;go_wp2
    go_ret2
    exact ⟨HE _ _ rfl,bR _ _⟩
 ·have HE:=(show Hid (∀w' e,e=.returned (.tuple #[.slice none 0 0,.int .i64 30])->ShV w w' lo hi e) from fun w' e he=>by
   unfold ShV;rw [iN (by rw [zga h0];simp)];exact he)
  have h3:lo<0∨(0<=lo/\1114111<lo):=by omega
  clear h0
  rcases h3 with h3 | ⟨h3,h4⟩
  ·go_enter Tryz.func156,Tryz.ntmps156
   go_wp2
   go_ret2
   exact ⟨HE _ _ rfl,bR _ _⟩
  ·have d2:decide (lo<0)=false:=dF (by omega)
   go_enter Tryz.func156,Tryz.ntmps156;go_wp2
   go_ret2
   exact ⟨HE _ _ rfl,bR _ _⟩
theorem ch1 {w1 wr wA:World} (h:bW w1 wr) (hb:Below wr.drew.heap.size wr.drew wA):bW w1 wA:=h.trans ((zeP hb).mono h.size)
theorem ch2 {w1 wr wA:World} (h:bW w1 wr) (hb:Below wr.drew.heap.size wr.drew wA) (o:Obj):bW w1 (wA.alloc o):=(ch1 h hb).alloc (ch1 h hb).size o
theorem ch3 {w1 wr wA w3:World} {row:Option Nat} {o:Obj} (h:bW w1 wr) (hb:Below wr.drew.heap.size wr.drew wA) (hg:(wA.alloc o).grownBy w3 row) (hr:∀j,row=some j->w1.heap.size<=j):bW w1 w3:=(ch2 h hb o).grown hg (ch2 h hb o).size hr
theorem AtN.far {w1 wr:World} {v':Value} {L:List Nd} (h:AtN w1 wr w1.heap.size (.slice none 0 0) v' L):∀j,v'.ownBlock=some j->w1.heap.size<=j:=fun j e=>by
 rcases h.k j e with q | q
 ·cases q
 ·exact q
theorem zgs (lo hi:Int) (w:World):Cl 136 #[.int .i64 lo,.int .i64 hi] w fun e w'=>PnV w w' lo hi e/\bW w w':=by
 obtain ⟨i0,hinf,hz0,hz1,hz2⟩:=info_parts Tryz.info80;have HS:Hid (Cl 156 #[.int .i64 lo,.int .i64 hi] w fun e w'=>ShV w w' lo hi e/\bW w w'):=zhi lo hi w;have HO:=hO (zdw lo hi);have HLn:=hO (zfG lo hi 5);rw [zds] at HLn;go_enter Tryz.func136,Tryz.ntmps136;go_wp2_with fail;refine HS.mono ?_;rintro e w1 ⟨hsh,hb1⟩;have HB1:=hO hb1;clear hb1 HS
 rcases hsh.err with ⟨c,rfl,hc,hP⟩ | ⟨⟨sv',xs,rfl,hR⟩,hP⟩
 ·have HP:=hO hP
  have ec:(c != 0)=true:=bne_iff_ne.2 hc;clear hsh hP hc;go_wp2
  go_ret2
  exact ⟨HP _ _ _ rfl,HB1.out⟩
 ·have HP:=hO hP
  have HR:=hO hR;clear hsh hP;generalize zcK lo hi=ss at *;have hlx:=hR.len;obtain ⟨A,cs,rfl⟩:∃A cs,sv'=.slice A ss.length cs:=by
   rcases hR.o.2 with ⟨rfl,h0⟩ | ⟨g,cap,cur,rfl,_⟩
   ·exact ⟨none,0,by rw [<-hlx,h0]⟩
   ·exact ⟨_,_,by rw [hlx]⟩
  clear hR hlx;by_cases hn:ss.length=0
  ·have HE:Hid (zgy ss=[(2,0#256)]):=(by show _=_;unfold zgy;rw [iP hn])
   have e0:((ss.length:Int)==0)=true:=by rw [hn];rfl
   have HN:=hO (zhK w1 2);have HB2:Hid (bW w (w1.alloc (.cells (ndZ 2) 65))):=HB1.alloc HB1.size _;have hz1':=HB1.size;clear HO HR HLn hn;generalize ss.length=m at *;go_wp2
   go_ret2
   exact ⟨HP _ _ _ ⟨_,rfl,by rw [HE.out];exact za7 HN hz1'⟩,HB2.out⟩
  ·have HE:Hid (zgy ss=zdG ss ss.length):=(by show _=_;unfold zgy;rw [iN hn])
   have e0:((ss.length:Int)==0)=false:=bF (by omega);have HG:Hid (∀k,k<ss.length->∃s,ss[k]?=some s):=fun k hk=>⟨_,gE hk⟩
   have HPl:Hid (∀k,(zdG ss k).length<=9 * k):=fun k=>zfH ss k fun s hs=>(HO s hs).2.2
   clear hn;go_wp2_with fail;go_loopw [8,9] (fun u t wr=>∃k:Nat,k<=ss.length/\t=.int .i64 k/\Hid (AtN w1 wr w1.heap.size (.slice none 0 0) u (zdG ss k))) (fun _ t _=>ss.length - (intOf t).toNat)
   case atStart=>exact ⟨0,by omega,by go_num,⟨World.ownsRow_nil _ _ _ _,World.grownBy.refl _ _,fun k e=>.inl e⟩⟩
   case round =>
    obtain ⟨i,hi',rfl,HW⟩:=hrel;by_cases hlt:i<ss.length
    ·obtain ⟨s,hs⟩:=HG i hlt
     obtain ⟨g,cap,gx,cx,hA,hgl,_,hcell,hgx,hspl⟩:=HR.get hs
     cases hA
     have HI:Hid (zdG ss (i+1)=(zdG ss i++zcx s s.length)++(if 0<i then [(8,0#256)] else [])):=(by show _=_;rw [zcN];unfold ptI;rw [hs,List.append_assoc]);obtain ⟨ho1,ho2,ho3⟩:=HO s (List.mem_of_getElem? hs);have hplk:=HPl i;have hln:=HLn.out;have z0:(0:Int)<=(i:Int):=by omega
     have z1:(i:Int)<(ss.length:Int):=by omega
     have z9:(ss.length:Int)<=1114112:=by omega
     have HC0:Hid (∀W,bW w1 W->W.cell? ⟨g,i,none⟩=some (.slice (some ⟨gx,0,none⟩) s.length cx)):=fun W hb=>(hb.cell (p:=⟨g,i,none⟩) hgl).trans hcell
     have HC1:Hid (∀W,bW w1 W->SpL W gx 0 s):=fun W hb j p hp=>⟨(hb.cell (p:=⟨gx,0+j * 2,none⟩) hgx).trans (hspl j p hp).1,(hb.cell (p:=⟨gx,0+j * 2+1,none⟩) hgx).trans (hspl j p hp).2⟩
     have HGs:Hid (∀k,k<s.length->∃p,s[k]?=some p/\0<=p.1/\p.1<=p.2/\p.2<=255):=fun k hk=>⟨_,gE hk,ho1 _ (List.getElem_mem hk)⟩
     have HN:Hid (∀k p,s[k]?=some p->zcx s (k+1)=zcx s k++((5,spn p.1 p.2)::(if 0<k then [(7,0#256)] else []))):=fun k p hp=>by rw [zcM];unfold ndI;rw [hp]
     have HNl:Hid (∀k,(zcx s k).length<=2 * k):=fun k=>zel s k
     clear hcell hspl ho1 ho2 hs;generalize hP0:zdG ss i=P0 at *;have hP0l:P0.length<=10027008:=by omega
     clear hP0 hplk hln;have e00:P0++zcx s 0=P0:=(by unfold zcx;simp);have HW0:Hid (AtN w1 wr w1.heap.size (.slice none 0 0) u8 (P0++zcx s 0)):=(by rw [e00];exact HW);clear e00;clear HW;go_wp2_with fail;go_loopw [8,10] (fun u t wr2=>∃k:Nat,k<=s.length/\t=.int .i64 k/\Hid (AtN w1 wr2 w1.heap.size (.slice none 0 0) u (P0++zcx s k))) (fun _ t _=>s.length - (intOf t).toNat)
     case atStart=>exact ⟨0,by omega,by go_num,HW0⟩
     case round =>
      obtain ⟨k,hk,rfl,HW⟩:=hrel;clear HW0;have HBw:Hid (bW w1 wr):=zb4 HW.g;have c0:=HC0 wr HBw.out;by_cases hltk:k<s.length
      ·obtain ⟨⟨p1,p2⟩,hp,b0,b1,b2⟩:=HGs k hltk
       dsimp only at b0 b1 b2;obtain ⟨c1,c2⟩:=HC1 wr HBw k _ hp;dsimp only at c1 c2;rw [Nat.zero_add] at c1 c2;have HN1:=hO (HN k _ hp);have HF:Hid (∀w,Cl 69 #[.int .i64 p1,.int .i64 p2] w (rB w (sv (spn p1 p2)))):=fun w=>zad p1 p2 w b0 b1 b2
       have HSK:=(show Hid (∀W,bW w1 W->W.cell? ⟨g,i,none⟩=some (.slice (some ⟨gx,0,none⟩) s.length cx)/\W.cell? ⟨gx,k * 2,none⟩=some (.int .i64 p1)/\W.cell? ⟨gx,k * 2+1,none⟩=some (.int .i64 p2)) from fun W hb=>by
        have e:=HC1.out W hb k _ hp;rw [Nat.zero_add] at e;exact ⟨HC0.out W hb,e.1,e.2⟩)
       have hnl:=HNl k;have y0:(0:Int)<=(k:Int):=by omega
       have y1:(k:Int)<(s.length:Int):=by omega
       have y9:(s.length:Int)<=4:=by omega
       dsimp only at HN1;have hMl:(P0++zcx s k).length<=20000000:=by rw [lA];omega
       generalize hM:P0++zcx s k=M at *;have HM:=hO hM;have HFar:=hO HW.far;have hO:=HW.o;have hszw:=HBw.size;clear hM hp hnl;generalize spn p1 p2=x at *;go_wp2_with fail;go_region_held3 (fun w'=>w'.cell? ⟨g,i,none⟩=some (.slice (some ⟨gx,0,none⟩) s.length cx)/\w'.cell? ⟨gx,k * 2,none⟩=some (.int .i64 p1)/\w'.cell? ⟨gx,k * 2+1,none⟩=some (.int .i64 p2))
        (first | go_keep | exact HSK _ (ch1 HBw hbA) | exact HSK _ (ch2 HBw hbA _) | exact HSK _ (ch3 HBw hbA hgrow HFar.out))
        (first | (go_at_call 69;with_reducible refine (HF.out _).mono ?_;rintro e wA ⟨rfl,hbA⟩) | (refine step_append_lies _ (by rfl) _ _ _ (by rfl) w1.heap.size 65 i0 _ 7 64 Tryz.underlying34 hinf hz0 hz1 hz2 rfl (by omega) _ M.length (ndc M) (by rfl) ((zbB hO (zeP hbA)).alloc _) ⟨wA.heap.size,0,none⟩ 1 1 (ndV (5,x)) (by rfl) (by rfl) (zdv wA (ndA 5 x)) (zc7 _) (by omega) (by unfold maxLen;omega) (by omega) (by simp;exact Nat.le_succ_of_le (ch1 HBw.out hbA).size) (wA.heap.size+1) (by simp) ?_;intro g3 cap3 w3 hown hgrow hat hlt3))
       all_goals
        have HW3:Hid (AtN w1 w3 w1.heap.size (.slice none 0 0) (.slice (some ⟨g3,0,none⟩) (M.length+1) cap3) (M++[(5,x)])):=(HW.below (zeP hbA)).push hown hgrow hat;have hsz3:w1.heap.size<=w3.heap.size:=(zb4 HW3.g).size;clear hown hgrow hat hO HW hbA HBw HFar HSK c0 c1 c2;by_cases hk0:0<k
        ·have z2:(0:Int)<(k:Int):=by omega
         have hO3:=HW3.o;have HN2:Hid (P0++zcx s (k+1)=(M++[(5,x)])++[(7,0#256)]):=(by show _=_;rw [HN1.out,iP hk0,<-HM.out];simp);go_wp2_with (at_builtin;refine wpList_append_lies _ rfl _ _ 34 rfl w1.heap.size 65 i0 (.agg #[.int .i64 0,.int .i64 0,.string ⟨#[]⟩,.int .u64 0,.int .u64 0,.int .u64 0,.int .u64 0]) 7 64 Tryz.underlying34 hinf hz0 hz1 hz2 rfl (by decide) _ _ _ rfl (hO3.alloc _) ⟨w3.heap.size,0,none⟩ 1 1 (ndZ 7).toList rfl rfl (zdv w3 (ndZ 7)) (by rw [zdu];exact zc7 _) (by decide) ?c3 ?c4 ?c5 (w3.heap.size+1) (by simp) ?_)
         case c3=>first | (unfold maxLen;omega) | (simp;unfold maxLen;omega)
         case c4=>first | omega | (simp;omega)
         case c5=>simp;omega
         intro g4 cap4 w4 hown hgrow hat hlt4;have HW4:=(show Hid (AtN w1 w4 w1.heap.size (.slice none 0 0) (.slice (some ⟨g4,0,none⟩) (M.length+1+1) cap4) (P0++zcx s (k+1))) from (by
          have e:(M++[(5,x)]).length=M.length+1:=by simp
          rw [HN2.out];have hp:=HW3.push (g:=g4) (cap:=cap4) (n:=(7,0#256)) (by rw [e,<-zdu];exact hown) hgrow hat
          rwa [e] at hp))
         clear hown hgrow hat hO3 HW3;go_wp2
         go_roundw
         case rel=>exact ⟨k+1,by omega,by go_num,HW4⟩
         case measure=>simp [intOf];omega
        ·have hk00:k=0:=by omega
         have HN2:Hid (P0++zcx s (k+1)=M++[(5,x)]):=(by show _=_;rw [HN1.out,iN hk0,<-HM.out];simp);rw [<-HN2.out] at HW3;subst hk00;go_wp2
         go_roundw
         case rel=>exact ⟨0+1,by omega,by go_num,HW3⟩
         case measure=>simp [intOf];omega
      ·obtain rfl:k=s.length:=by omega
       have hnl:=HNl s.length;have hMl:(P0++zcx s s.length).length<=20000000:=by rw [lA];omega
       have hszw:=HBw.size;clear HGs HN HNl HC0 HC1 HBw hnl;generalize hM:P0++zcx s s.length=M at *;clear hM;by_cases hi0:0<i
       ·have z2:(0:Int)<(i:Int):=by omega
        have hO3:=HW.o;have HI2:Hid (zdG ss (i+1)=M++[(8,0#256)]):=(by show _=_;rw [HI.out,iP hi0]);go_wp2_with (at_builtin;refine wpList_append_lies _ rfl _ _ 34 rfl w1.heap.size 65 i0 (.agg #[.int .i64 0,.int .i64 0,.string ⟨#[]⟩,.int .u64 0,.int .u64 0,.int .u64 0,.int .u64 0]) 7 64 Tryz.underlying34 hinf hz0 hz1 hz2 rfl (by decide) _ _ _ rfl (hO3.alloc _) ⟨wr.heap.size,0,none⟩ 1 1 (ndZ 8).toList rfl rfl (zdv wr (ndZ 8)) (by rw [zdu];exact zc7 _) (by decide) ?c3 ?c4 ?c5 (wr.heap.size+1) (by simp) ?_)
        case c3=>first | (unfold maxLen;omega) | (simp;unfold maxLen;omega)
        case c4=>first | omega | (simp;omega)
        case c5=>simp;omega
        intro g4 cap4 w4 hown hgrow hat hlt4;have HW4:=(show Hid (AtN w1 w4 w1.heap.size (.slice none 0 0) (.slice (some ⟨g4,0,none⟩) (M.length+1) cap4) (zdG ss (i+1))) from (by
         rw [HI2.out];exact HW.push (n:=(8,0#256)) (by rw [<-zdu];exact hown) hgrow hat))
        clear hown hgrow hat hO3 HW;go_wp2
        go_roundw
        case rel=>exact ⟨i+1,by omega,by go_num,HW4⟩
        case measure=>simp [intOf];omega
       ·have hi00:i=0:=by omega
        have HI2:Hid (zdG ss (i+1)=M):=(by show _=_;rw [HI.out,iN hi0,List.append_nil]);rw [<-HI2.out] at HW;subst hi00;go_wp2
        go_roundw
        case rel=>exact ⟨0+1,by omega,by go_num,HW⟩
        case measure=>simp [intOf];omega
    ·obtain rfl:i=ss.length:=by omega
     have HB3:Hid (bW w wr):=HB1.trans ((zb4 HW.g).mono HB1.size);have hz:=HB1.size;rw [<-HE.out] at HW;clear HG HR HO HPl HE;go_wp2
     go_ret2
     exact ⟨HP _ _ _ ⟨_,rfl,za7 HW.o hz⟩,HB3.out⟩
end Go.Proofs.YtkihfkcmcdiajabGreatDoor.R
