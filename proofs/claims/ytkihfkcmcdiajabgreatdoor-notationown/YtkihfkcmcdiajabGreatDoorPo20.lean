import Derived.Test.YtkihfkcmcdiajabGreatDoorPo19
set_option maxRecDepth 100000
set_option maxHeartbeats 8000000
namespace Go.Proofs.YtkihfkcmcdiajabGreatDoor.N
open Go.RowKit
theorem ba_nil {b:ByteArray} (h:b.size=0):b=⟨#[]⟩:=by
 obtain ⟨d⟩:=b;rw [Array.eq_empty_of_size_eq_zero (show d.size=0 from h)]
theorem lf_one (t:Tk) (hk:t.kd=2∨t.kd=3∨t.kd=28∨t.kd=18∨t.kd=29∨t.kd=30∨t.kd=1):∃n:Nd,n.op≠0/\lfN t=[n]/\((t.kd=2/\t.tx=⟨#[]⟩/\n=nd0 1)∨(t.kd=2/\t.tx.toList.isEmpty=false/\n=⟨4,0,t.tx,0,0,0,0⟩)∨(t.kd=3/\True/\n=⟨5,0,⟨#[]⟩,t.s0,t.s1,t.s2,t.s3⟩)∨(t.kd=28/\True/\n=⟨5,0,⟨#[]⟩,t.s0,t.s1,t.s2,t.s3⟩)∨(t.kd=18/\True/\n=nd0 3)∨(t.kd=29/\True/\n=nd0 1)∨(t.kd=30/\True/\n=nd0 2)∨(t.kd=1/\True/\n=⟨6,0,t.tx,0,0,0,0⟩)):=by
 have one:∀x:Int,x≠0->(nd0 x).op≠0:=fun x h=>h
 rcases hk with q | q | q | q | q | q | q
 ·by_cases ht:t.tx.size=0
  ·exact ⟨nd0 1,one 1 (by decide),by simp [lfN,q,ht],.inl ⟨q,ba_nil ht,rfl⟩⟩
  ·exact ⟨⟨4,0,t.tx,0,0,0,0⟩,by show (4:Int)≠0;decide,by simp [lfN,q,ht],.inr (.inl ⟨q,T.zdP ht,rfl⟩)⟩
 ·exact ⟨_,by show (5:Int)≠0;decide,by simp [lfN,q],.inr (.inr (.inl ⟨q,trivial,rfl⟩))⟩
 ·exact ⟨_,by show (5:Int)≠0;decide,by simp [lfN,q],.inr (.inr (.inr (.inl ⟨q,trivial,rfl⟩)))⟩
 ·exact ⟨_,one 3 (by decide),by simp [lfN,q],.inr (.inr (.inr (.inr (.inl ⟨q,trivial,rfl⟩))))⟩
 ·exact ⟨_,one 1 (by decide),by simp [lfN,q],.inr (.inr (.inr (.inr (.inr (.inl ⟨q,trivial,rfl⟩)))))⟩
 ·exact ⟨_,one 2 (by decide),by simp [lfN,q],.inr (.inr (.inr (.inr (.inr (.inr (.inl ⟨q,trivial,rfl⟩))))))⟩
 ·exact ⟨_,by show (6:Int)≠0;decide,by simp [lfN,q],.inr (.inr (.inr (.inr (.inr (.inr (.inr ⟨q,trivial,rfl⟩))))))⟩
theorem zkT {E:PE} (hE:OkE E) {z:Nat} {w0:World} {tv:Value} {i d:Nat} (hlt:i<E.l.length) (hk:kdA E i=2∨kdA E i=3∨kdA E i=28∨kdA E i=18∨kdA E i=29∨kdA E i=30∨kdA E i=1) (W:World) (v:Value) (L:List Nd) (h:DS E w0 W tv i d v L) (hL:L.length<=10027010 * i):Cl 120 #[rdV tv i z d v 0 0] W fun e W'=>PoD E z w0 tv d W v L (gN E 5 i d) e W':=by
 have hlen:=hE.len;have hz:=hE.z;have hkt:=zc4 hlt;obtain ⟨B,cB,hv⟩:=zaf h.o;subst hv;obtain ⟨At,ct,htv,hc⟩:=h.tk;subst htv;obtain ⟨g,rfl,lg,_⟩:=hc i hlt;clear hc
 suffices Hm:Cl 120 #[rdV (.slice (some ⟨g,0,none⟩) E.l.length ct) i z d (.slice B L.length cB) 0 0] W fun e W'=>Pu E z w0 (.slice (some ⟨g,0,none⟩) E.l.length ct) W (.slice B L.length cB) (.inl (i+1,d,L)) (stR d L (gN E 5 i d)) e W' from Hm.mono fun _ _ hp=>hp.pod
 obtain ⟨j,hj⟩:∃j,j=i+1:=⟨_,rfl⟩;have u1:IntKind.i64.wrap ((i:Int)+1)=(j:Int):=by rw [wI];omega
 obtain ⟨c0,hc0⟩:∃s,s=(.inl (j,d,L):St):=⟨_,rfl⟩;rw [<-hj,<-hc0];have hq5:∀q,gN E 5 i d=.inr q->q.2≠0:=fun q hq=>by
  have:=(zbA (by omega) (fun _=>hlt) hq).2;omega
 have HX:=BX.new W (.slice (some ⟨g,0,none⟩) E.l.length ct) i z d (.slice B L.length cB) 0 0;obtain ⟨w1,hw1⟩:∃w,(W.alloc (rdO (.slice (some ⟨g,0,none⟩) E.l.length ct) i z d (.slice B L.length cB) 0 0)).alloc rdZ=w:=⟨_,rfl⟩;obtain ⟨w2,hw2⟩:∃w,w1.alloc (tkO (tkA E i))=w:=⟨_,rfl⟩;have sz1:w1.heap.size=W.heap.size+2:=by rw [<-hw1,sA,sA]
 rw [hw1] at HX;have HX1:Hid (BX W.heap.size w1 (.slice (some ⟨g,0,none⟩) E.l.length ct) i z d (.slice B L.length cB) 0 0):=HX.1;have hb2:bW W w2:=by rw [<-hw2];exact HX.2.trans ((zaa _ _).mono HX.2.size)
 have HX2:Hid (BX W.heap.size w2 (.slice (some ⟨g,0,none⟩) E.l.length ct) i z d (.slice B L.length cB) 0 0):=by rw [<-hw2];exact HX.1.later (zaa _ _)
 have HT2:Hid (TX w2 (W.heap.size+2) (tkA E i)):=by rw [<-hw2,<-sz1];exact TX.new w1 _
 have HB:Hid (BX W.heap.size (w2.setCell ⟨W.heap.size,1,none⟩ (.int .i64 j)) (.slice (some ⟨g,0,none⟩) E.l.length ct) j z d (.slice B L.length cB) 0 0):=HX2.s1 j;have HW:Hid (WS E z w0 (.slice (some ⟨g,0,none⟩) E.l.length ct) W 3 (.slice B L.length cB) (w2.setCell ⟨W.heap.size,1,none⟩ (.int .i64 j)) c0 j d B L.length cB 0 0):=by
  rw [hc0];exact (WS.new (h.at (by omega)) hb2 (by rw [<-hw2,sA,sz1];omega)).set (nL _) (by omega) 1 _
 have HE1:=hO hw1;have HE2:=hO hw2;have hr:TR w1 g (i * 9) (tkA E i):=by
  obtain ⟨A',c',e',hc'⟩:=(h.later HX.2).tk;obtain ⟨g',hA,_,hr⟩:=hc' i hlt
  cases e'
  cases hA
  exact hr
 clear hw1 hw2 hb2;have HC0:=hO hc0;have z0:(0:Int)<=(i:Int):=by omega
 have z1:(i:Int)<(E.l.length:Int):=by omega
 have z2:¬(E.l.length:Int)<=(i:Int):=by omega
 rw [<-hkt] at hk;have hV:gN E 5 i d=.inl (j,lfN (tkA E i)):=by
  rw [g5 E i d hlt,show zbw E i=.inl (lfN (tkA E i),1) from by unfold zbw;rw [hE.rn];exact zfL (by omega),hj]
 obtain ⟨n,hn,hl,hcs⟩:=lf_one (tkA E i) hk;rw [hl] at hV;obtain ⟨c1,hc1⟩:∃s,s=stR d L (gN E 5 i d):=⟨_,rfl⟩;rw [<-hc1];have HPu:Hid (∀(W:World) (i d:Int) (A:Option Addr) (l c:Nat) (p q:Int),Rv E z w0 (.slice (some ⟨g,0,none⟩) E.l.length ct) W c0 i d A l c p q->Cl 54 #[rdV (.slice (some ⟨g,0,none⟩) E.l.length ct) i z d (.slice A l c) p q,T.ndG n] W fun e W'=>Pu E z w0 (.slice (some ⟨g,0,none⟩) E.l.length ct) W (.slice A l c) c0 c1 e W'):=fun W i d A l c p q h=>by
  have:=putU h n fun s e=>by
   rw [hc0] at e;obtain rfl:=Sum.inl.inj e
   show L.length+1<=_
   omega
  rw [show c1=zgr n c0 from by rw [hc1,hV,hc0];unfold zgr;rw [iN hn];rfl];exact this
 clear hV hn hl hk hc1;clear HX h hL hE hlt hlen hz hkt hj hc0 lg hq5 z2;generalize tkA E i=t at *;obtain ⟨kd,nn,fr,en,tx,s0,s1,s2,s3⟩:=t;dsimp only at *
 rcases hcs with ⟨rfl,h2,rfl⟩ | ⟨rfl,h2,rfl⟩ | ⟨rfl,h2,rfl⟩ | ⟨rfl,h2,rfl⟩ | ⟨rfl,h2,rfl⟩ | ⟨rfl,h2,rfl⟩ | ⟨rfl,h2,rfl⟩ | ⟨rfl,h2,rfl⟩
 all_goals first | subst h2 | skip
 all_goals
  obtain ⟨a0,a1,a2,a3,a4,a5,a6,a7,a8⟩:=hr;obtain ⟨t0,t1,t2,t3,t4,t5,t6,t7,t8⟩:=HT2.cells;obtain ⟨o0,o1,o2,o3,o4,o5,o6⟩:=HX1.s.cl;obtain ⟨y0,y1,y2,y3,y4,y5,y6⟩:=HX2.s.cl;have yf:=HX2.s.fz 1;dsimp only [tkO] at HE2;go_enter Tryz.func120,Tryz.ntmps120;go_wp2_with (first | rw [HE1.out] | rw [HE2.out])
  refine (HPu _ _ _ _ _ _ _ _ HW.rv).mono ?_;rintro e w2 ⟨i2,d2,A2,l2,c2,p2,q2,rfl,hr,hf⟩;have HB2:=hO (HB.kept (fun j h1 h2=>HW.keep hf j h1 (by omega)));have HW2:=hO (HW.call hr hf);clear hr hf HPu HW HB a0 a1 a2 a3 a4 a5 a6 a7 a8 t0 t1 t2 t3 t4 t5 t6 t7 t8 o0 o1 o2 o3 o4 o5 o6 y0 y1 y2 y3 y4 y5 y6 yf HE1 HE2 HX1 HX2 HT2;obtain ⟨k0,k1,k2,k3,k4,k5,k6⟩:=HB2.r.cl;obtain ⟨f0,f1,f2,f3,f4,f5,f6⟩:=HB2.r.fzs;go_wp2_with fail;refine zaV (s:=2) rfl rfl rfl (zaH HB2.r _ _ _ _ _ _ _) ?_;rw [HC0.out];exact (HW2.st7 (by omega) (by omega) _ _ _ _ _ _ _).pu _
theorem zmE {E:PE} (hE:OkE E) {z:Nat} {w0:World} {tv:Value} {i d:Nat} (hlt:i<E.l.length) (HX0:Cd 29 E z w0 tv (i+1) (d+1) (gN E 0 (i+1) (d+1))) (hk:kdA E i=16∨kdA E i=21∨kdA E i=23∨kdA E i=25) (W:World) (v:Value) (L:List Nd) (h:DS E w0 W tv i d v L) (hL:L.length<=10027010 * i):Cl 120 #[rdV tv i z d v 0 0] W fun e W'=>PoD E z w0 tv d W v L (gN E 5 i d) e W':=by
 have hlen:=hE.len;have hz:=hE.z;have hkt:=zc4 hlt;obtain ⟨B,cB,hv⟩:=zaf h.o;subst hv;obtain ⟨At,ct,htv,hc⟩:=h.tk;subst htv;obtain ⟨g,rfl,lg,_⟩:=hc i hlt;clear hc
 suffices Hm:Cl 120 #[rdV (.slice (some ⟨g,0,none⟩) E.l.length ct) i z d (.slice B L.length cB) 0 0] W fun e W'=>Pu E z w0 (.slice (some ⟨g,0,none⟩) E.l.length ct) W (.slice B L.length cB) (.inl (i+1,d,L)) (stR d L (gN E 5 i d)) e W' from Hm.mono fun _ _ hp=>hp.pod
 obtain ⟨j,hj⟩:∃j,j=i+1:=⟨_,rfl⟩;have u1:IntKind.i64.wrap ((i:Int)+1)=(j:Int):=by rw [wI];omega
 obtain ⟨c0,hc0⟩:∃s,s=(.inl (j,d,L):St):=⟨_,rfl⟩;rw [<-hj,<-hc0];have hq5:∀q,gN E 5 i d=.inr q->q.2≠0:=fun q hq=>by
  have:=(zbA (by omega) (fun _=>hlt) hq).2;omega
 have HX:=BX.new W (.slice (some ⟨g,0,none⟩) E.l.length ct) i z d (.slice B L.length cB) 0 0;obtain ⟨w1,hw1⟩:∃w,(W.alloc (rdO (.slice (some ⟨g,0,none⟩) E.l.length ct) i z d (.slice B L.length cB) 0 0)).alloc rdZ=w:=⟨_,rfl⟩;obtain ⟨w2,hw2⟩:∃w,w1.alloc (tkO (tkA E i))=w:=⟨_,rfl⟩;have sz1:w1.heap.size=W.heap.size+2:=by rw [<-hw1,sA,sA]
 rw [hw1] at HX;have HX1:Hid (BX W.heap.size w1 (.slice (some ⟨g,0,none⟩) E.l.length ct) i z d (.slice B L.length cB) 0 0):=HX.1;have hb2:bW W w2:=by rw [<-hw2];exact HX.2.trans ((zaa _ _).mono HX.2.size)
 have HX2:Hid (BX W.heap.size w2 (.slice (some ⟨g,0,none⟩) E.l.length ct) i z d (.slice B L.length cB) 0 0):=by rw [<-hw2];exact HX.1.later (zaa _ _)
 have HT2:Hid (TX w2 (W.heap.size+2) (tkA E i)):=by rw [<-hw2,<-sz1];exact TX.new w1 _
 have HB:Hid (BX W.heap.size (w2.setCell ⟨W.heap.size,1,none⟩ (.int .i64 j)) (.slice (some ⟨g,0,none⟩) E.l.length ct) j z d (.slice B L.length cB) 0 0):=HX2.s1 j;have HW:Hid (WS E z w0 (.slice (some ⟨g,0,none⟩) E.l.length ct) W 3 (.slice B L.length cB) (w2.setCell ⟨W.heap.size,1,none⟩ (.int .i64 j)) c0 j d B L.length cB 0 0):=by
  rw [hc0];exact (WS.new (h.at (by omega)) hb2 (by rw [<-hw2,sA,sz1];omega)).set (nL _) (by omega) 1 _
 have HE1:=hO hw1;have HE2:=hO hw2;have hr:TR w1 g (i * 9) (tkA E i):=by
  obtain ⟨A',c',e',hc'⟩:=(h.later HX.2).tk;obtain ⟨g',hA,_,hr⟩:=hc' i hlt
  cases e'
  cases hA
  exact hr
 clear hw1 hw2 hb2;have HC0:=hO hc0;have z0:(0:Int)<=(i:Int):=by omega
 have z1:(i:Int)<(E.l.length:Int):=by omega
 have z2:¬(E.l.length:Int)<=(i:Int):=by omega
 rw [<-hkt] at hk;obtain ⟨cl,n,hcl,hV,hcs⟩:∃(cl:Int) (n:Nd),cl≠0/\gN E 5 i d=(bnd (rW E i d cl) fun a ms=>.inl (a,ms++pnN n))/\(((tkA E i).kd=16/\cl=17/\n=nd0 0)∨((tkA E i).kd=21/\cl=22/\n=⟨19,0,(tkA E i).tx,0,0,0,0⟩)∨((tkA E i).kd=23/\cl=24/\n=nd0 20)∨((tkA E i).kd=25/\cl=26/\n=nd0 21)):=by
  rcases hk with q | q | q | q
  ·exact ⟨17,nd0 0,by decide,zfK hlt (by unfold zbw zb2;rw [q];rfl),.inl ⟨q,rfl,rfl⟩⟩
  ·exact ⟨22,⟨19,0,(tkA E i).tx,0,0,0,0⟩,by decide,zfK hlt (by unfold zbw zb2;rw [q];rfl),.inr (.inl ⟨q,rfl,rfl⟩)⟩
  ·exact ⟨24,nd0 20,by decide,zfK hlt (by unfold zbw zb2;rw [q];rfl),.inr (.inr (.inl ⟨q,rfl,rfl⟩))⟩
  ·exact ⟨26,nd0 21,by decide,zfK hlt (by unfold zbw zb2;rw [q];rfl),.inr (.inr (.inr ⟨q,rfl,rfl⟩))⟩
 obtain ⟨c1,hc1⟩:∃s,s=stR d L (gN E 5 i d):=⟨_,rfl⟩;rw [<-hc1];have HWi:Hid (∀(W:World) (i d:Int) (A:Option Addr) (l c:Nat) (p q:Int),Rv E z w0 (.slice (some ⟨g,0,none⟩) E.l.length ct) W c0 i d A l c p q->Cl 137 #[rdV (.slice (some ⟨g,0,none⟩) E.l.length ct) i z d (.slice A l c) p q,.int .i64 cl,T.ndG n] W fun e W'=>Pu E z w0 (.slice (some ⟨g,0,none⟩) E.l.length ct) W (.slice A l c) c0 c1 e W'):=fun W i' d' A l c p q h=>by
  rw [hc0] at h;obtain ⟨rfl,rfl,rfl,rfl,rfl,hd⟩:=h;subst hj;rw [hc0,hc1];rw [hV] at hq5 ⊢;exact (zkR hE cl hcl n hlt HX0 W _ L hd hL).mono fun _ _ hp=>hp.u hq5
 clear hV hcl hk hc1 HX0;clear HX h hL hE hlt hlen hz hkt hj hc0 lg hq5 z2;generalize tkA E i=t at *;obtain ⟨kd,nn,fr,en,tx,s0,s1,s2,s3⟩:=t;dsimp only at *
 rcases hcs with ⟨rfl,rfl,rfl⟩ | ⟨rfl,rfl,rfl⟩ | ⟨rfl,rfl,rfl⟩ | ⟨rfl,rfl,rfl⟩
 all_goals
  obtain ⟨a0,a1,a2,a3,a4,a5,a6,a7,a8⟩:=hr;obtain ⟨t0,t1,t2,t3,t4,t5,t6,t7,t8⟩:=HT2.cells;obtain ⟨o0,o1,o2,o3,o4,o5,o6⟩:=HX1.s.cl;obtain ⟨y0,y1,y2,y3,y4,y5,y6⟩:=HX2.s.cl;have yf:=HX2.s.fz 1;dsimp only [tkO] at HE2;go_enter Tryz.func120,Tryz.ntmps120;go_wp2_with (first | rw [HE1.out] | rw [HE2.out])
  refine (HWi _ _ _ _ _ _ _ _ HW.rv).mono ?_;rintro e w2 ⟨i2,d2,A2,l2,c2,p2,q2,rfl,hr,hf⟩;have HB2:=hO (HB.kept (fun j h1 h2=>HW.keep hf j h1 (by omega)));have HW2:=hO (HW.call hr hf);clear hr hf HWi HW HB a0 a1 a2 a3 a4 a5 a6 a7 a8 t0 t1 t2 t3 t4 t5 t6 t7 t8 o0 o1 o2 o3 o4 o5 o6 y0 y1 y2 y3 y4 y5 y6 yf HE1 HE2 HX1 HX2 HT2;obtain ⟨k0,k1,k2,k3,k4,k5,k6⟩:=HB2.r.cl;obtain ⟨f0,f1,f2,f3,f4,f5,f6⟩:=HB2.r.fzs;go_wp2_with fail;refine zaV (s:=2) rfl rfl rfl (zaH HB2.r _ _ _ _ _ _ _) ?_;rw [HC0.out];exact (HW2.st7 (by omega) (by omega) _ _ _ _ _ _ _).pu _
theorem zmF {E:PE} (hE:OkE E) {z:Nat} {w0:World} {tv:Value} {i d:Nat} (hlt:i<E.l.length) (HX0:Cd 29 E z w0 tv (i+1) (d+1) (gN E 0 (i+1) (d+1))) (hk:kdA E i=19) (W:World) (v:Value) (L:List Nd) (h:DS E w0 W tv i d v L) (hL:L.length<=10027010 * i):Cl 120 #[rdV tv i z d v 0 0] W fun e W'=>PoD E z w0 tv d W v L (gN E 5 i d) e W':=by
 have hlen:=hE.len;have hz:=hE.z;have hkt:=zc4 hlt;obtain ⟨B,cB,hv⟩:=zaf h.o;subst hv;obtain ⟨At,ct,htv,hc⟩:=h.tk;subst htv;obtain ⟨g,rfl,lg,_⟩:=hc i hlt;clear hc
 suffices Hm:Cl 120 #[rdV (.slice (some ⟨g,0,none⟩) E.l.length ct) i z d (.slice B L.length cB) 0 0] W fun e W'=>Pu E z w0 (.slice (some ⟨g,0,none⟩) E.l.length ct) W (.slice B L.length cB) (.inl (i+1,d,L)) (stR d L (gN E 5 i d)) e W' from Hm.mono fun _ _ hp=>hp.pod
 obtain ⟨j,hj⟩:∃j,j=i+1:=⟨_,rfl⟩;have u1:IntKind.i64.wrap ((i:Int)+1)=(j:Int):=by rw [wI];omega
 obtain ⟨c0,hc0⟩:∃s,s=(.inl (j,d,L):St):=⟨_,rfl⟩;rw [<-hj,<-hc0];have hq5:∀q,gN E 5 i d=.inr q->q.2≠0:=fun q hq=>by
  have:=(zbA (by omega) (fun _=>hlt) hq).2;omega
 have HX:=BX.new W (.slice (some ⟨g,0,none⟩) E.l.length ct) i z d (.slice B L.length cB) 0 0;obtain ⟨w1,hw1⟩:∃w,(W.alloc (rdO (.slice (some ⟨g,0,none⟩) E.l.length ct) i z d (.slice B L.length cB) 0 0)).alloc rdZ=w:=⟨_,rfl⟩;obtain ⟨w2,hw2⟩:∃w,w1.alloc (tkO (tkA E i))=w:=⟨_,rfl⟩;have sz1:w1.heap.size=W.heap.size+2:=by rw [<-hw1,sA,sA]
 rw [hw1] at HX;have HX1:Hid (BX W.heap.size w1 (.slice (some ⟨g,0,none⟩) E.l.length ct) i z d (.slice B L.length cB) 0 0):=HX.1;have hb2:bW W w2:=by rw [<-hw2];exact HX.2.trans ((zaa _ _).mono HX.2.size)
 have HX2:Hid (BX W.heap.size w2 (.slice (some ⟨g,0,none⟩) E.l.length ct) i z d (.slice B L.length cB) 0 0):=by rw [<-hw2];exact HX.1.later (zaa _ _)
 have HT2:Hid (TX w2 (W.heap.size+2) (tkA E i)):=by rw [<-hw2,<-sz1];exact TX.new w1 _
 have HB:Hid (BX W.heap.size (w2.setCell ⟨W.heap.size,1,none⟩ (.int .i64 j)) (.slice (some ⟨g,0,none⟩) E.l.length ct) j z d (.slice B L.length cB) 0 0):=HX2.s1 j;have HW:Hid (WS E z w0 (.slice (some ⟨g,0,none⟩) E.l.length ct) W 3 (.slice B L.length cB) (w2.setCell ⟨W.heap.size,1,none⟩ (.int .i64 j)) c0 j d B L.length cB 0 0):=by
  rw [hc0];exact (WS.new (h.at (by omega)) hb2 (by rw [<-hw2,sA,sz1];omega)).set (nL _) (by omega) 1 _
 have HE1:=hO hw1;have HE2:=hO hw2;have hr:TR w1 g (i * 9) (tkA E i):=by
  obtain ⟨A',c',e',hc'⟩:=(h.later HX.2).tk;obtain ⟨g',hA,_,hr⟩:=hc' i hlt
  cases e'
  cases hA
  exact hr
 clear hw1 hw2 hb2;have HC0:=hO hc0;have z0:(0:Int)<=(i:Int):=by omega
 have z1:(i:Int)<(E.l.length:Int):=by omega
 have z2:¬(E.l.length:Int)<=(i:Int):=by omega
 rw [<-hkt] at hk;have HKd:Hid (∀(W:World) (i2 d2:Int) (A:Option Addr) (l c:Nat) (p q:Int),Rv E z w0 (.slice (some ⟨g,0,none⟩) E.l.length ct) W c0 i2 d2 A l c p q->Cl 39 #[rdV (.slice (some ⟨g,0,none⟩) E.l.length ct) i2 z d2 (.slice A l c) p q,.int .i64 0] W (rB W (.int .i64 (kdA E (i+1))))):=fun W i2 d2 A l c p q h=>by
  rw [hc0] at h;obtain ⟨rfl,rfl,rfl,rfl,rfl,hd⟩:=h;subst hj;exact za4 hd z d 0 0 0 (i+1) (by omega) (by omega) hz
 by_cases h20:kdA E (i+1)=20
 ·have hV:gN E 5 i d=.inl (j+1,[nd0 17]):=by rw [zoi hlt (by rw [<-hkt];exact hk)];unfold brR;rw [iP h20,hj]
  have hjl:j<E.l.length:=by rw [hj];exact za9 (by omega)
  obtain ⟨c2,hc2⟩:∃s,s=upS c0:=⟨_,rfl⟩;obtain ⟨c1,hc1⟩:∃s,s=stR d L (gN E 5 i d):=⟨_,rfl⟩;rw [<-hc1];have HPu:Hid (∀(W:World) (i d:Int) (A:Option Addr) (l c:Nat) (p q:Int),Rv E z w0 (.slice (some ⟨g,0,none⟩) E.l.length ct) W c2 i d A l c p q->Cl 54 #[rdV (.slice (some ⟨g,0,none⟩) E.l.length ct) i z d (.slice A l c) p q,T.ndG (nd0 17)] W fun e W'=>Pu E z w0 (.slice (some ⟨g,0,none⟩) E.l.length ct) W (.slice A l c) c2 c1 e W'):=fun W i d A l c p q h=>by
   have:=putU h (nd0 17) fun s e=>by
    rw [hc2,hc0] at e;obtain rfl:=Sum.inl.inj e
    show L.length+1<=_
    omega
   rw [show c1=zgr (nd0 17) c2 from by rw [hc1,hV,hc2,hc0];rfl];exact this
  have HU:Hid ((∀s,c0=.inl s->s.1<E.l.length)/\E.l.length<=1000000/\upS c0=c2):=⟨fun s e=>by rw [hc0] at e;obtain rfl:=Sum.inl.inj e;exact hjl,hz,hc2.symm⟩;rw [h20] at HKd;clear hV hc1 HX0 h20 hc2 hjl;clear HX h hL hE hlt hlen hz hkt hj hc0 lg hq5 z2;generalize tkA E i=t at *;obtain ⟨kd,nn,fr,en,tx,s0,s1,s2,s3⟩:=t;dsimp only at *;obtain rfl:=hk;obtain ⟨a0,a1,a2,a3,a4,a5,a6,a7,a8⟩:=hr;obtain ⟨t0,t1,t2,t3,t4,t5,t6,t7,t8⟩:=HT2.cells;obtain ⟨o0,o1,o2,o3,o4,o5,o6⟩:=HX1.s.cl;obtain ⟨y0,y1,y2,y3,y4,y5,y6⟩:=HX2.s.cl;have yf:=HX2.s.fz 1;dsimp only [tkO] at HE2;go_enter Tryz.func120,Tryz.ntmps120;go_wp2_with (first | rw [HE1.out] | rw [HE2.out])
  refine (HKd _ _ _ _ _ _ _ _ HW.rv).mono ?_;rintro e w2 ⟨rfl,hb⟩;have HB2:=hO (HB.later hb);have HW2:=hO (HW.later hb);clear hb HKd HW HB a0 a1 a2 a3 a4 a5 a6 a7 a8 t0 t1 t2 t3 t4 t5 t6 t7 t8 o0 o1 o2 o3 o4 o5 o6 y0 y1 y2 y3 y4 y5 y6 yf HE1 HE2 HX1 HX2 HT2;obtain ⟨k0,k1,k2,k3,k4,k5,k6⟩:=HB2.s.cl;obtain ⟨f0,f1,f2,f3,f4,f5,f6⟩:=HB2.s.fzs;obtain ⟨j3,hj3⟩:∃x,IntKind.i64.wrap ((j:Int)+1)=x:=⟨_,rfl⟩;go_wp2_with fail;have HB3:=hO (HB2.s1 j3);have HW3:=hO ((HW2.set (nL _) (by omega) 1 (.int .i64 j3)).up HU.1 HU.2.1);rw [HU.2.2,hj3] at HW3;clear hj3 HB2 HW2 k0 k1 k2 k3 k4 k5 k6 f0 f1 f2 f3 f4 f5 f6;refine (HPu _ _ _ _ _ _ _ _ HW3.rv).mono ?_;rintro e w4 ⟨i4,d4,A4,l4,c4,p4,q4,rfl,hr,hf⟩;have HB4:=hO (HB3.kept (fun j h1 h2=>HW3.keep hf j h1 (by omega)));have HW4:=hO (HW3.call hr hf);clear hr hf HPu HW3 HB3;obtain ⟨k0,k1,k2,k3,k4,k5,k6⟩:=HB4.r.cl;obtain ⟨f0,f1,f2,f3,f4,f5,f6⟩:=HB4.r.fzs;go_wp2_with fail;refine zaV (s:=2) rfl rfl rfl (zaH HB4.r _ _ _ _ _ _ _) ?_;rw [HC0.out];exact (HW4.st7 (by omega) (by omega) _ _ _ _ _ _ _).pu _
 ·have hV:gN E 5 i d=bnd (rW E i d 20) fun a ms=>.inl (a,ms++pnN (nd0 18)):=by rw [zoi hlt (by rw [<-hkt];exact hk)];unfold brR;rw [iN h20];rfl
  obtain ⟨c1,hc1⟩:∃s,s=stR d L (gN E 5 i d):=⟨_,rfl⟩;rw [<-hc1];have HWi:Hid (∀(W:World) (i d:Int) (A:Option Addr) (l c:Nat) (p q:Int),Rv E z w0 (.slice (some ⟨g,0,none⟩) E.l.length ct) W c0 i d A l c p q->Cl 137 #[rdV (.slice (some ⟨g,0,none⟩) E.l.length ct) i z d (.slice A l c) p q,.int .i64 20,T.ndG (nd0 18)] W fun e W'=>Pu E z w0 (.slice (some ⟨g,0,none⟩) E.l.length ct) W (.slice A l c) c0 c1 e W'):=fun W i' d' A l c p q h=>by
   rw [hc0] at h;obtain ⟨rfl,rfl,rfl,rfl,rfl,hd⟩:=h;subst hj;rw [hc0,hc1];rw [hV] at hq5 ⊢;exact (zkR hE 20 (by decide) (nd0 18) hlt HX0 W _ L hd hL).mono fun _ _ hp=>hp.u hq5
  have t20:(kdA E (i+1)==20)=false:=bF h20;generalize kdA E (i+1)=k2 at *;clear hV hc1 HX0 h20;clear HX h hL hE hlt hlen hz hkt hj hc0 lg hq5 z2;generalize tkA E i=t at *;obtain ⟨kd,nn,fr,en,tx,s0,s1,s2,s3⟩:=t;dsimp only at *;obtain rfl:=hk;obtain ⟨a0,a1,a2,a3,a4,a5,a6,a7,a8⟩:=hr;obtain ⟨t0,t1,t2,t3,t4,t5,t6,t7,t8⟩:=HT2.cells;obtain ⟨o0,o1,o2,o3,o4,o5,o6⟩:=HX1.s.cl;obtain ⟨y0,y1,y2,y3,y4,y5,y6⟩:=HX2.s.cl;have yf:=HX2.s.fz 1;dsimp only [tkO] at HE2;go_enter Tryz.func120,Tryz.ntmps120;go_wp2_with (first | rw [HE1.out] | rw [HE2.out])
  refine (HKd _ _ _ _ _ _ _ _ HW.rv).mono ?_;rintro e w2 ⟨rfl,hb⟩;have HB2:=hO (HB.later hb);have HW2:=hO (HW.later hb);clear hb HKd HW HB a0 a1 a2 a3 a4 a5 a6 a7 a8 t0 t1 t2 t3 t4 t5 t6 t7 t8 o0 o1 o2 o3 o4 o5 o6 y0 y1 y2 y3 y4 y5 y6 yf HE1 HE2 HX1 HX2 HT2;obtain ⟨k0,k1,k2',k3,k4,k5,k6⟩:=HB2.s.cl;go_wp2_with fail;refine (HWi _ _ _ _ _ _ _ _ HW2.rv).mono ?_;rintro e w4 ⟨i4,d4,A4,l4,c4,p4,q4,rfl,hr,hf⟩;have HB4:=hO (HB2.kept (fun j h1 h2=>HW2.keep hf j h1 (by omega)));have HW4:=hO (HW2.call hr hf);clear hr hf HWi HW2 HB2 k0 k1 k2' k3 k4 k5 k6;obtain ⟨k0,k1,k2,k3,k4,k5,k6⟩:=HB4.r.cl;obtain ⟨f0,f1,f2,f3,f4,f5,f6⟩:=HB4.r.fzs;go_wp2_with fail;refine zaV (s:=2) rfl rfl rfl (zaH HB4.r _ _ _ _ _ _ _) ?_;rw [HC0.out];exact (HW4.st7 (by omega) (by omega) _ _ _ _ _ _ _).pu _
theorem zmG {E:PE} (hE:OkE E) {z:Nat} {w0:World} {tv:Value} {i d:Nat} (hlt:i<E.l.length) (hk:kdA E i=5) (W:World) (v:Value) (L:List Nd) (h:DS E w0 W tv i d v L) (hL:L.length<=10027010 * i):Cl 120 #[rdV tv i z d v 0 0] W fun e W'=>PoD E z w0 tv d W v L (gN E 5 i d) e W':=by
 have hlen:=hE.len;have hz:=hE.z;have hkt:=zc4 hlt;obtain ⟨B,cB,hv⟩:=zaf h.o;subst hv;obtain ⟨At,ct,htv,hc⟩:=h.tk;subst htv;obtain ⟨g,rfl,lg,_⟩:=hc i hlt;clear hc
 suffices Hm:Cl 120 #[rdV (.slice (some ⟨g,0,none⟩) E.l.length ct) i z d (.slice B L.length cB) 0 0] W fun e W'=>Pu E z w0 (.slice (some ⟨g,0,none⟩) E.l.length ct) W (.slice B L.length cB) (.inl (i+1,d,L)) (stR d L (gN E 5 i d)) e W' from Hm.mono fun _ _ hp=>hp.pod
 obtain ⟨j,hj⟩:∃j,j=i+1:=⟨_,rfl⟩;have u1:IntKind.i64.wrap ((i:Int)+1)=(j:Int):=by rw [wI];omega
 obtain ⟨c0,hc0⟩:∃s,s=(.inl (j,d,L):St):=⟨_,rfl⟩;rw [<-hj,<-hc0];have hq5:∀q,gN E 5 i d=.inr q->q.2≠0:=fun q hq=>by
  have:=(zbA (by omega) (fun _=>hlt) hq).2;omega
 have HX:=BX.new W (.slice (some ⟨g,0,none⟩) E.l.length ct) i z d (.slice B L.length cB) 0 0;obtain ⟨w1,hw1⟩:∃w,(W.alloc (rdO (.slice (some ⟨g,0,none⟩) E.l.length ct) i z d (.slice B L.length cB) 0 0)).alloc rdZ=w:=⟨_,rfl⟩;obtain ⟨w2,hw2⟩:∃w,w1.alloc (tkO (tkA E i))=w:=⟨_,rfl⟩;have sz1:w1.heap.size=W.heap.size+2:=by rw [<-hw1,sA,sA]
 rw [hw1] at HX;have HX1:Hid (BX W.heap.size w1 (.slice (some ⟨g,0,none⟩) E.l.length ct) i z d (.slice B L.length cB) 0 0):=HX.1;have hb2:bW W w2:=by rw [<-hw2];exact HX.2.trans ((zaa _ _).mono HX.2.size)
 have HX2:Hid (BX W.heap.size w2 (.slice (some ⟨g,0,none⟩) E.l.length ct) i z d (.slice B L.length cB) 0 0):=by rw [<-hw2];exact HX.1.later (zaa _ _)
 have HT2:Hid (TX w2 (W.heap.size+2) (tkA E i)):=by rw [<-hw2,<-sz1];exact TX.new w1 _
 have HB:Hid (BX W.heap.size (w2.setCell ⟨W.heap.size,1,none⟩ (.int .i64 j)) (.slice (some ⟨g,0,none⟩) E.l.length ct) j z d (.slice B L.length cB) 0 0):=HX2.s1 j;have HW:Hid (WS E z w0 (.slice (some ⟨g,0,none⟩) E.l.length ct) W 3 (.slice B L.length cB) (w2.setCell ⟨W.heap.size,1,none⟩ (.int .i64 j)) c0 j d B L.length cB 0 0):=by
  rw [hc0];exact (WS.new (h.at (by omega)) hb2 (by rw [<-hw2,sA,sz1];omega)).set (nL _) (by omega) 1 _
 have HE1:=hO hw1;have HE2:=hO hw2;have hr:TR w1 g (i * 9) (tkA E i):=by
  obtain ⟨A',c',e',hc'⟩:=(h.later HX.2).tk;obtain ⟨g',hA,_,hr⟩:=hc' i hlt
  cases e'
  cases hA
  exact hr
 clear hw1 hw2 hb2;have HC0:=hO hc0;have z0:(0:Int)<=(i:Int):=by omega
 have z1:(i:Int)<(E.l.length:Int):=by omega
 have z2:¬(E.l.length:Int)<=(i:Int):=by omega
 rw [<-hkt] at hk;have hmem:tkA E i∈E.l:=by unfold tkA;rw [gE hlt];exact List.getElem_mem hlt
 have hn:=hE.rg _ hmem hk;have hV:gN E 5 i d=.inl (j,lfN (tkA E i)):=by
  rw [g5 E i d hlt,show zbw E i=.inl (lfN (tkA E i),1) from by unfold zbw;rw [hE.rn];exact zfL (by omega),hj]
 have hM:=zjL (tkA E i);have hM2:=zjM (tkA E i);have hl5:lfN (tkA E i)=rnP (tkA E i).nn (tkA E i).s0:=by simp [lfN,hk]
 rw [hl5] at hV hM hM2;have HP:Hid (∀W,Cl 136 #[.int .i64 (tkA E i).nn,.int .i64 (tkA E i).s0] W fun e w'=>(∃v,e=.returned (.tuple #[v,.int .i64 0])/\w'.ownsRow W.heap.size 65 7 v (rnP (tkA E i).nn (tkA E i).s0).length (T.ndc (rnP (tkA E i).nn (tkA E i).s0)))/\bW W w'):=fun W=>by
  refine (R.zgs (tkA E i).nn (tkA E i).s0 W).mono ?_;rintro e w' ⟨h1,h2⟩;refine ⟨?_,h2⟩;unfold R.PnV at h1;rw [iP ⟨by unfold R.bdB;exact decide_eq_true (by omega),by unfold R.bdB;exact decide_eq_true (by omega)⟩,iP hn.2.1] at h1;obtain ⟨v,h3,h4⟩:=h1;exact ⟨v,h3,by unfold rnP;rw [List.length_map,<-zjB];exact h4⟩
 have u2:IntKind.i64.wrap (tkA E i).s0=(tkA E i).s0:=by rw [wI];omega
 generalize rnP (tkA E i).nn (tkA E i).s0=M at *;rw [hV];have HLM:Hid (L.length+M.length<=maxLen/\(L.length+M.length) * 64<=140737488355328):=⟨by unfold maxLen;omega,by omega⟩;obtain ⟨i0,hinf,hz0,hz1,hz2⟩:=info_parts T.Tryz.info43;have HS1:Hid (stR d L (.inl (j,M))=.inl (j,d,L++M)):=rfl;clear hV hmem hn hM2 hl5;have H1:=(show Hid (∀u∈T.ndc M,u.oneCell'=true) from fun u hu=>by
  unfold T.ndc at hu;rw [List.mem_flatMap] at hu;obtain ⟨n,_,hn⟩:=hu;exact T.zc7 n u hn)
 clear HX h hL hE hlt hlen hz hkt hj hc0 lg hq5 z2;generalize tkA E i=t at *;obtain ⟨kd,nn,fr,en,tx,s0,s1,s2,s3⟩:=t;dsimp only at *;obtain rfl:=hk;obtain ⟨a0,a1,a2,a3,a4,a5,a6,a7,a8⟩:=hr;obtain ⟨t0,t1,t2,t3,t4,t5,t6,t7,t8⟩:=HT2.cells;obtain ⟨o0,o1,o2,o3,o4,o5,o6⟩:=HX1.s.cl;obtain ⟨y0,y1,y2,y3,y4,y5,y6⟩:=HX2.s.cl;have yf:=HX2.s.fz 1;dsimp only [tkO] at HE2;go_enter Tryz.func120,Tryz.ntmps120;go_wp2_with (first | rw [HE1.out] | rw [HE2.out])
 refine (HP _).mono ?_;rintro e w2 ⟨⟨v,rfl,ho⟩,hb⟩;obtain ⟨q,c,rfl,_,_⟩:=ho.form hM;have HB2:=hO (HB.later hb);have HW2:=hO (HW.later hb);have HQ:Hid (∀j u,(T.ndc M)[j]?=some u->w2.cell? ((⟨q,0,none⟩:Addr).add j)=some u):=ho.cells rfl;have HDS:Hid (DS E w0 w2 (.slice (some ⟨g,0,none⟩) E.l.length ct) j d (.slice B L.length cB) L):=by
  have:=HW2.rv;rw [HC0.out] at this;exact this.2.2.2.2.2
 clear hb ho HP HW HB a0 a1 a2 a3 a4 a5 a6 a7 a8 t0 t1 t2 t3 t4 t5 t6 t7 t8 o0 o1 o2 o3 o4 o5 o6 y0 y1 y2 y3 y4 y5 y6 yf HE1 HE2 HX1 HX2 HT2;obtain ⟨k0,k1,k2,k3,k4,k5,k6⟩:=HB2.s.cl;go_wp2_with (at_builtin;refine wpList_append_lies _ rfl _ _ 34 rfl w0.heap.size 65 i0 _ 7 64 Tryz.underlying34 hinf hz0 hz1 hz2 rfl (by decide) _ _ _ rfl HDS.o ⟨q,0,none⟩ M.length c (T.ndc M) rfl (T.zgF M) HQ.out H1 hM HLM.1 HLM.2 HDS.bl.size _ rfl ?_)
 intro g3 cap w3 hown hgrow hat hlt3;have hf:Fd w2 w3 (.slice B L.length cB) (.slice (some ⟨g3,0,none⟩) (L.length+M.length) cap):=Fd.grow hgrow hat;have hd3:DS E w0 w3 (.slice (some ⟨g,0,none⟩) E.l.length ct) j d (.slice (some ⟨g3,0,none⟩) (L.length+M.length) cap) (L++M):=HDS.grow hgrow (by rw [lA,T.zch];exact hown);rw [HC0.out] at HW2;have HB3:=hO (HB2.kept (fun j h1 h2=>HW2.keep hf j h1 (by omega)));have HW3:Hid (WS E z w0 (.slice (some ⟨g,0,none⟩) E.l.length ct) W 3 (.slice B L.length cB) w3 (.inl (j,d,L++M)) j d (some ⟨g3,0,none⟩) (L.length+M.length) cap 0 0):=HW2.call ⟨rfl,rfl,rfl,rfl,(lA ..).symm,hd3⟩ hf;clear hf hd3 hown hgrow hat hlt3 HB2 HW2 HQ H1 HDS k0 k1 k2 k3 k4 k5 k6;obtain ⟨k0,k1,k2,k3,k4,k5,k6⟩:=HB3.s.cl;have g4:=HB3.s.fz 4;obtain ⟨m0',m1',m2',m3',m4',m5',m6'⟩:=HB3.r.cl;obtain ⟨f0,f1,f2,f3,f4,f5,f6⟩:=HB3.r.fzs;go_wp2_with fail;have hb4:=HB3.s4 (.slice (some ⟨g3,0,none⟩) (L.length+M.length) cap);refine zaV (s:=2) rfl rfl rfl (zaH hb4.r _ _ _ _ _ _ _) ?_;rw [HC0.out,HS1.out];exact ((HW3.set (nL _) (by omega) 4 _).st7 (by omega) (by omega) _ _ _ _ _ _ _).pu _
theorem zkU {E:PE} (hE:OkE E) {z:Nat} {w0:World} {tv:Value} {i d:Nat} (hb:bgP E i=true) (HX0:Cd 29 E z w0 tv (i+1) (d+1) (gN E 0 (i+1) (d+1))):Cd 120 E z w0 tv i d (gN E 5 i d):=by
 intro W v L h hL;have hlt:=zfh hb;have hbb:=hb;unfold bgP prK at hbb;simp only [Bool.or_eq_true,Bool.and_eq_true,beq_iff_eq] at hbb
 rcases hbb with (((((((((((q | q) | q) | q) | q) | q) | q) | q) | q) | q) | q) | q) | ⟨q,_⟩
 all_goals first | exact zkT hE hlt (by omega) W v L h hL | exact zmE hE hlt HX0 (by omega) W v L h hL | exact zmF hE hlt HX0 q W v L h hL | exact zmG hE hlt q W v L h hL
end Go.Proofs.YtkihfkcmcdiajabGreatDoor.N
namespace Go.Proofs.YtkihfkcmcdiajabGreatDoor.T
open Go.RowKit
theorem zgt (s:ByteArray) (hs:s.size<=140737488355328) (w:World):Cl 99 #[.string s] w (rU w (.bool (nmB s))):=by
 by_cases h0:s.size=0
 ·have HE:Hid (nmB s=false):=zf0 (fun h=>by have:=h.1;omega)
  have z0:(s.size:Int)<1:=by omega
  clear h0 hs;go_enter Tryz.func99,Tryz.ntmps99;go_wp2_with fail;go_ret
  exact ⟨by rw [HE.out];rfl,rfl⟩
 have z0:¬(s.size:Int)<1:=by omega
 by_cases h1:32<s.size
 ·have HE:Hid (nmB s=false):=zf0 (fun h=>by have:=h.2.1;omega)
  have z1:(32:Int)<(s.size:Int):=by omega
  clear h0 hs;go_enter Tryz.func99,Tryz.ntmps99;go_wp2_with fail;go_ret
  exact ⟨by rw [HE.out];rfl,rfl⟩
 have z1:¬(32:Int)<(s.size:Int):=by omega
 have hp:0<s.size:=by omega
 have zp:(0:Int)<(s.size:Int):=by omega
 by_cases hd:(48:Int)<=(s[0].toNat:Int)/\(s[0].toNat:Int)<=57
 ·obtain ⟨d1,d2⟩:=hd
  have HE:Hid (nmB s=false):=zf0 (fun h=>by have:=h.2.2.1 hp;unfold dgB at this;rw [decide_eq_true d1,decide_eq_true d2] at this;cases this);go_enter Tryz.func99,Tryz.ntmps99;go_wp2_with fail;go_ret
  exact ⟨by rw [HE.out];rfl,rfl⟩
 have HZ:Hid (dgB (s[0].toNat:Int)=false):=(by
  show dgB _=_
  unfold dgB;by_cases d1:(48:Int)<=(s[0].toNat:Int)
  ·rw [dF (fun d2=>hd ⟨d1,d2⟩),Bool.and_false]
  ·rw [dF d1,Bool.false_and])
 have HN:Hid ((∀(j:Nat) (h:j<s.size),nmC (s[j].toNat:Int)=true)->nmB s=true):=fun h=>nmB_t ⟨hp,by omega,fun _=>HZ.out,h⟩
 have HM:Hid (∀(j:Nat) (h:j<s.size),nmC (s[j].toNat:Int)=false->nmB s=false):=fun j h e=>zf0 (fun q=>by have:=q.2.2.2 j h;rw [e] at this;cases this)
 clear HZ;go_enter Tryz.func99,Tryz.ntmps99;by_cases d1:(48:Int)<=(s[0].toNat:Int)
 ·have d2:¬(s[0].toNat:Int)<=57:=fun d2=>hd ⟨d1,d2⟩
  have HX:=hO hd;clear hd HX;go_wp2_with fail;go_loopw [3] (fun t wr=>∃k:Nat,k<=s.size/\t=.int .i64 k/\wr=w/\Hid (∀(j:Nat) (h:j<s.size),j<k->nmC (s[j].toNat:Int)=true)) (fun t _=>s.size - (intOf t).toNat)
  case atStart=>exact ⟨0,by omega,by go_num,rfl,fun j h q=>by omega⟩
  case round =>
   obtain ⟨k,hk,rfl,rfl,HI⟩:=hrel;clear d1 d2;by_cases hlt:k<s.size
   ·have z3:(0:Int)<=(k:Int):=by omega
    have z4:(k:Int)<(s.size:Int):=by omega
    have HC:Hid (nmC (s[k].toNat:Int)=(dgB (s[k].toNat:Int)||ltB (s[k].toNat:Int)||(s[k].toNat:Int)==95)):=rfl;have HG:Hid (nmC (s[k].toNat:Int)=true->∀(j:Nat) (h:j<s.size),j<k+1->nmC (s[j].toNat:Int)=true):=fun e j h q=>by
     by_cases hj:j<k
     ·exact HI j h hj
     ·obtain rfl:j=k:=by omega
      exact e
    have HM2:Hid (nmC (s[k].toNat:Int)=false->nmB s=false):=HM k hlt;clear HI HN HM;by_cases r0:(s[k].toNat:Int)<48
    ·have t0:¬(97:Int)<=(s[k].toNat:Int):=by omega
     have t1:(s[k].toNat:Int)<=122:=by omega
     have t2:¬(65:Int)<=(s[k].toNat:Int):=by omega
     have t3:(s[k].toNat:Int)<=90:=by omega
     have t4:¬(48:Int)<=(s[k].toNat:Int):=by omega
     have t5:(s[k].toNat:Int)<=57:=by omega
     have t6:((s[k].toNat:Int)==95)=false:=bF (by omega);have HV:Hid (nmC (s[k].toNat:Int)=false):=(by show nmC _=_;rw [HC.out];unfold dgB ltB;rw [t6];simp [t0,t1,t2,t3,t4,t5]);have HE:Hid (nmB s=false):=HM2.out HV.out;clear HC HG HM2 HV;go_wp2_with fail;go_ret
     exact ⟨by rw [HE.out];rfl,rfl⟩
    by_cases r1:(s[k].toNat:Int)<58
    ·have t0:¬(97:Int)<=(s[k].toNat:Int):=by omega
     have t1:(s[k].toNat:Int)<=122:=by omega
     have t2:¬(65:Int)<=(s[k].toNat:Int):=by omega
     have t3:(s[k].toNat:Int)<=90:=by omega
     have t4:(48:Int)<=(s[k].toNat:Int):=by omega
     have t5:(s[k].toNat:Int)<=57:=by omega
     have t6:((s[k].toNat:Int)==95)=false:=bF (by omega);have HV:Hid (nmC (s[k].toNat:Int)=true):=(by show nmC _=_;rw [HC.out];unfold dgB ltB;rw [t6];simp [t0,t1,t2,t3,t4,t5]);have HI2:Hid (∀(j:Nat) (h:j<s.size),j<k+1->nmC (s[j].toNat:Int)=true):=HG.out HV.out;clear HC HG HM2 HV;go_wp2_with fail;go_roundw
     case rel=>exact ⟨k+1,by omega,by go_num,trivial,HI2⟩
     case measure=>simp [intOf];omega
    by_cases r2:(s[k].toNat:Int)<65
    ·have t0:¬(97:Int)<=(s[k].toNat:Int):=by omega
     have t1:(s[k].toNat:Int)<=122:=by omega
     have t2:¬(65:Int)<=(s[k].toNat:Int):=by omega
     have t3:(s[k].toNat:Int)<=90:=by omega
     have t4:(48:Int)<=(s[k].toNat:Int):=by omega
     have t5:¬(s[k].toNat:Int)<=57:=by omega
     have t6:((s[k].toNat:Int)==95)=false:=bF (by omega);have HV:Hid (nmC (s[k].toNat:Int)=false):=(by show nmC _=_;rw [HC.out];unfold dgB ltB;rw [t6];simp [t0,t1,t2,t3,t4,t5]);have HE:Hid (nmB s=false):=HM2.out HV.out;clear HC HG HM2 HV;go_wp2_with fail;go_ret
     exact ⟨by rw [HE.out];rfl,rfl⟩
    by_cases r3:(s[k].toNat:Int)<91
    ·have t0:¬(97:Int)<=(s[k].toNat:Int):=by omega
     have t1:(s[k].toNat:Int)<=122:=by omega
     have t2:(65:Int)<=(s[k].toNat:Int):=by omega
     have t3:(s[k].toNat:Int)<=90:=by omega
     have t4:(48:Int)<=(s[k].toNat:Int):=by omega
     have t5:¬(s[k].toNat:Int)<=57:=by omega
     have t6:((s[k].toNat:Int)==95)=false:=bF (by omega);have HV:Hid (nmC (s[k].toNat:Int)=true):=(by show nmC _=_;rw [HC.out];unfold dgB ltB;rw [t6];simp [t0,t1,t2,t3,t4,t5]);have HI2:Hid (∀(j:Nat) (h:j<s.size),j<k+1->nmC (s[j].toNat:Int)=true):=HG.out HV.out;clear HC HG HM2 HV;go_wp2_with fail;go_roundw
     case rel=>exact ⟨k+1,by omega,by go_num,trivial,HI2⟩
     case measure=>simp [intOf];omega
    by_cases r4:(s[k].toNat:Int)<95
    ·have t0:¬(97:Int)<=(s[k].toNat:Int):=by omega
     have t1:(s[k].toNat:Int)<=122:=by omega
     have t2:(65:Int)<=(s[k].toNat:Int):=by omega
     have t3:¬(s[k].toNat:Int)<=90:=by omega
     have t4:(48:Int)<=(s[k].toNat:Int):=by omega
     have t5:¬(s[k].toNat:Int)<=57:=by omega
     have t6:((s[k].toNat:Int)==95)=false:=bF (by omega);have HV:Hid (nmC (s[k].toNat:Int)=false):=(by show nmC _=_;rw [HC.out];unfold dgB ltB;rw [t6];simp [t0,t1,t2,t3,t4,t5]);have HE:Hid (nmB s=false):=HM2.out HV.out;clear HC HG HM2 HV;go_wp2_with fail;go_ret
     exact ⟨by rw [HE.out];rfl,rfl⟩
    by_cases r5:(s[k].toNat:Int)<96
    ·have t0:¬(97:Int)<=(s[k].toNat:Int):=by omega
     have t1:(s[k].toNat:Int)<=122:=by omega
     have t2:(65:Int)<=(s[k].toNat:Int):=by omega
     have t3:¬(s[k].toNat:Int)<=90:=by omega
     have t4:(48:Int)<=(s[k].toNat:Int):=by omega
     have t5:¬(s[k].toNat:Int)<=57:=by omega
     have t6:((s[k].toNat:Int)==95)=true:=beq_iff_eq.2 (by omega);have HV:Hid (nmC (s[k].toNat:Int)=true):=(by show nmC _=_;rw [HC.out];unfold dgB ltB;rw [t6];simp [t0,t1,t2,t3,t4,t5]);have HI2:Hid (∀(j:Nat) (h:j<s.size),j<k+1->nmC (s[j].toNat:Int)=true):=HG.out HV.out;clear HC HG HM2 HV;go_wp2_with fail;go_roundw
     case rel=>exact ⟨k+1,by omega,by go_num,trivial,HI2⟩
     case measure=>simp [intOf];omega
    by_cases r6:(s[k].toNat:Int)<97
    ·have t0:¬(97:Int)<=(s[k].toNat:Int):=by omega
     have t1:(s[k].toNat:Int)<=122:=by omega
     have t2:(65:Int)<=(s[k].toNat:Int):=by omega
     have t3:¬(s[k].toNat:Int)<=90:=by omega
     have t4:(48:Int)<=(s[k].toNat:Int):=by omega
     have t5:¬(s[k].toNat:Int)<=57:=by omega
     have t6:((s[k].toNat:Int)==95)=false:=bF (by omega);have HV:Hid (nmC (s[k].toNat:Int)=false):=(by show nmC _=_;rw [HC.out];unfold dgB ltB;rw [t6];simp [t0,t1,t2,t3,t4,t5]);have HE:Hid (nmB s=false):=HM2.out HV.out;clear HC HG HM2 HV;go_wp2_with fail;go_ret
     exact ⟨by rw [HE.out];rfl,rfl⟩
    by_cases r7:(s[k].toNat:Int)<123
    ·have t0:(97:Int)<=(s[k].toNat:Int):=by omega
     have t1:(s[k].toNat:Int)<=122:=by omega
     have t2:(65:Int)<=(s[k].toNat:Int):=by omega
     have t3:¬(s[k].toNat:Int)<=90:=by omega
     have t4:(48:Int)<=(s[k].toNat:Int):=by omega
     have t5:¬(s[k].toNat:Int)<=57:=by omega
     have t6:((s[k].toNat:Int)==95)=false:=bF (by omega);have HV:Hid (nmC (s[k].toNat:Int)=true):=(by show nmC _=_;rw [HC.out];unfold dgB ltB;rw [t6];simp [t0,t1,t2,t3,t4,t5]);have HI2:Hid (∀(j:Nat) (h:j<s.size),j<k+1->nmC (s[j].toNat:Int)=true):=HG.out HV.out;clear HC HG HM2 HV;go_wp2_with fail;go_roundw
     case rel=>exact ⟨k+1,by omega,by go_num,trivial,HI2⟩
     case measure=>simp [intOf];omega
    have t0:(97:Int)<=(s[k].toNat:Int):=by omega
    have t1:¬(s[k].toNat:Int)<=122:=by omega
    have t2:(65:Int)<=(s[k].toNat:Int):=by omega
    have t3:¬(s[k].toNat:Int)<=90:=by omega
    have t4:(48:Int)<=(s[k].toNat:Int):=by omega
    have t5:¬(s[k].toNat:Int)<=57:=by omega
    have t6:((s[k].toNat:Int)==95)=false:=bF (by omega);have HV:Hid (nmC (s[k].toNat:Int)=false):=(by show nmC _=_;rw [HC.out];unfold dgB ltB;rw [t6];simp [t0,t1,t2,t3,t4,t5]);have HE:Hid (nmB s=false):=HM2.out HV.out;clear HC HG HM2 HV;go_wp2_with fail;go_ret
    exact ⟨by rw [HE.out];rfl,rfl⟩
   ·obtain rfl:k=s.size:=by omega
    have HE:Hid (nmB s=true):=HN (fun j h=>HI j h h);clear HN HM HI;go_wp2_with fail;go_ret
    exact ⟨by rw [HE.out];rfl,rfl⟩
 ·skip
  have HX:=hO hd;clear hd HX;go_wp2_with fail;go_loopw [3] (fun t wr=>∃k:Nat,k<=s.size/\t=.int .i64 k/\wr=w/\Hid (∀(j:Nat) (h:j<s.size),j<k->nmC (s[j].toNat:Int)=true)) (fun t _=>s.size - (intOf t).toNat)
  case atStart=>exact ⟨0,by omega,by go_num,rfl,fun j h q=>by omega⟩
  case round =>
   obtain ⟨k,hk,rfl,rfl,HI⟩:=hrel;clear d1;by_cases hlt:k<s.size
   ·have z3:(0:Int)<=(k:Int):=by omega
    have z4:(k:Int)<(s.size:Int):=by omega
    have HC:Hid (nmC (s[k].toNat:Int)=(dgB (s[k].toNat:Int)||ltB (s[k].toNat:Int)||(s[k].toNat:Int)==95)):=rfl;have HG:Hid (nmC (s[k].toNat:Int)=true->∀(j:Nat) (h:j<s.size),j<k+1->nmC (s[j].toNat:Int)=true):=fun e j h q=>by
     by_cases hj:j<k
     ·exact HI j h hj
     ·obtain rfl:j=k:=by omega
      exact e
    have HM2:Hid (nmC (s[k].toNat:Int)=false->nmB s=false):=HM k hlt;clear HI HN HM;by_cases r0:(s[k].toNat:Int)<48
    ·have t0:¬(97:Int)<=(s[k].toNat:Int):=by omega
     have t1:(s[k].toNat:Int)<=122:=by omega
     have t2:¬(65:Int)<=(s[k].toNat:Int):=by omega
     have t3:(s[k].toNat:Int)<=90:=by omega
     have t4:¬(48:Int)<=(s[k].toNat:Int):=by omega
     have t5:(s[k].toNat:Int)<=57:=by omega
     have t6:((s[k].toNat:Int)==95)=false:=bF (by omega);have HV:Hid (nmC (s[k].toNat:Int)=false):=(by show nmC _=_;rw [HC.out];unfold dgB ltB;rw [t6];simp [t0,t1,t2,t3,t4,t5]);have HE:Hid (nmB s=false):=HM2.out HV.out;clear HC HG HM2 HV;go_wp2_with fail;go_ret
     exact ⟨by rw [HE.out];rfl,rfl⟩
    by_cases r1:(s[k].toNat:Int)<58
    ·have t0:¬(97:Int)<=(s[k].toNat:Int):=by omega
     have t1:(s[k].toNat:Int)<=122:=by omega
     have t2:¬(65:Int)<=(s[k].toNat:Int):=by omega
     have t3:(s[k].toNat:Int)<=90:=by omega
     have t4:(48:Int)<=(s[k].toNat:Int):=by omega
     have t5:(s[k].toNat:Int)<=57:=by omega
     have t6:((s[k].toNat:Int)==95)=false:=bF (by omega);have HV:Hid (nmC (s[k].toNat:Int)=true):=(by show nmC _=_;rw [HC.out];unfold dgB ltB;rw [t6];simp [t0,t1,t2,t3,t4,t5]);have HI2:Hid (∀(j:Nat) (h:j<s.size),j<k+1->nmC (s[j].toNat:Int)=true):=HG.out HV.out;clear HC HG HM2 HV;go_wp2_with fail;go_roundw
     case rel=>exact ⟨k+1,by omega,by go_num,trivial,HI2⟩
     case measure=>simp [intOf];omega
    by_cases r2:(s[k].toNat:Int)<65
    ·have t0:¬(97:Int)<=(s[k].toNat:Int):=by omega
     have t1:(s[k].toNat:Int)<=122:=by omega
     have t2:¬(65:Int)<=(s[k].toNat:Int):=by omega
     have t3:(s[k].toNat:Int)<=90:=by omega
     have t4:(48:Int)<=(s[k].toNat:Int):=by omega
     have t5:¬(s[k].toNat:Int)<=57:=by omega
     have t6:((s[k].toNat:Int)==95)=false:=bF (by omega);have HV:Hid (nmC (s[k].toNat:Int)=false):=(by show nmC _=_;rw [HC.out];unfold dgB ltB;rw [t6];simp [t0,t1,t2,t3,t4,t5]);have HE:Hid (nmB s=false):=HM2.out HV.out;clear HC HG HM2 HV;go_wp2_with fail;go_ret
     exact ⟨by rw [HE.out];rfl,rfl⟩
    by_cases r3:(s[k].toNat:Int)<91
    ·have t0:¬(97:Int)<=(s[k].toNat:Int):=by omega
     have t1:(s[k].toNat:Int)<=122:=by omega
     have t2:(65:Int)<=(s[k].toNat:Int):=by omega
     have t3:(s[k].toNat:Int)<=90:=by omega
     have t4:(48:Int)<=(s[k].toNat:Int):=by omega
     have t5:¬(s[k].toNat:Int)<=57:=by omega
     have t6:((s[k].toNat:Int)==95)=false:=bF (by omega);have HV:Hid (nmC (s[k].toNat:Int)=true):=(by show nmC _=_;rw [HC.out];unfold dgB ltB;rw [t6];simp [t0,t1,t2,t3,t4,t5]);have HI2:Hid (∀(j:Nat) (h:j<s.size),j<k+1->nmC (s[j].toNat:Int)=true):=HG.out HV.out;clear HC HG HM2 HV;go_wp2_with fail;go_roundw
     case rel=>exact ⟨k+1,by omega,by go_num,trivial,HI2⟩
     case measure=>simp [intOf];omega
    by_cases r4:(s[k].toNat:Int)<95
    ·have t0:¬(97:Int)<=(s[k].toNat:Int):=by omega
     have t1:(s[k].toNat:Int)<=122:=by omega
     have t2:(65:Int)<=(s[k].toNat:Int):=by omega
     have t3:¬(s[k].toNat:Int)<=90:=by omega
     have t4:(48:Int)<=(s[k].toNat:Int):=by omega
     have t5:¬(s[k].toNat:Int)<=57:=by omega
     have t6:((s[k].toNat:Int)==95)=false:=bF (by omega);have HV:Hid (nmC (s[k].toNat:Int)=false):=(by show nmC _=_;rw [HC.out];unfold dgB ltB;rw [t6];simp [t0,t1,t2,t3,t4,t5]);have HE:Hid (nmB s=false):=HM2.out HV.out;clear HC HG HM2 HV;go_wp2_with fail;go_ret
     exact ⟨by rw [HE.out];rfl,rfl⟩
    by_cases r5:(s[k].toNat:Int)<96
    ·have t0:¬(97:Int)<=(s[k].toNat:Int):=by omega
     have t1:(s[k].toNat:Int)<=122:=by omega
     have t2:(65:Int)<=(s[k].toNat:Int):=by omega
     have t3:¬(s[k].toNat:Int)<=90:=by omega
     have t4:(48:Int)<=(s[k].toNat:Int):=by omega
     have t5:¬(s[k].toNat:Int)<=57:=by omega
     have t6:((s[k].toNat:Int)==95)=true:=beq_iff_eq.2 (by omega);have HV:Hid (nmC (s[k].toNat:Int)=true):=(by show nmC _=_;rw [HC.out];unfold dgB ltB;rw [t6];simp [t0,t1,t2,t3,t4,t5]);have HI2:Hid (∀(j:Nat) (h:j<s.size),j<k+1->nmC (s[j].toNat:Int)=true):=HG.out HV.out;clear HC HG HM2 HV;go_wp2_with fail;go_roundw
     case rel=>exact ⟨k+1,by omega,by go_num,trivial,HI2⟩
     case measure=>simp [intOf];omega
    by_cases r6:(s[k].toNat:Int)<97
    ·have t0:¬(97:Int)<=(s[k].toNat:Int):=by omega
     have t1:(s[k].toNat:Int)<=122:=by omega
     have t2:(65:Int)<=(s[k].toNat:Int):=by omega
     have t3:¬(s[k].toNat:Int)<=90:=by omega
     have t4:(48:Int)<=(s[k].toNat:Int):=by omega
     have t5:¬(s[k].toNat:Int)<=57:=by omega
     have t6:((s[k].toNat:Int)==95)=false:=bF (by omega);have HV:Hid (nmC (s[k].toNat:Int)=false):=(by show nmC _=_;rw [HC.out];unfold dgB ltB;rw [t6];simp [t0,t1,t2,t3,t4,t5]);have HE:Hid (nmB s=false):=HM2.out HV.out;clear HC HG HM2 HV;go_wp2_with fail;go_ret
     exact ⟨by rw [HE.out];rfl,rfl⟩
    by_cases r7:(s[k].toNat:Int)<123
    ·have t0:(97:Int)<=(s[k].toNat:Int):=by omega
     have t1:(s[k].toNat:Int)<=122:=by omega
     have t2:(65:Int)<=(s[k].toNat:Int):=by omega
     have t3:¬(s[k].toNat:Int)<=90:=by omega
     have t4:(48:Int)<=(s[k].toNat:Int):=by omega
     have t5:¬(s[k].toNat:Int)<=57:=by omega
     have t6:((s[k].toNat:Int)==95)=false:=bF (by omega);have HV:Hid (nmC (s[k].toNat:Int)=true):=(by show nmC _=_;rw [HC.out];unfold dgB ltB;rw [t6];simp [t0,t1,t2,t3,t4,t5]);have HI2:Hid (∀(j:Nat) (h:j<s.size),j<k+1->nmC (s[j].toNat:Int)=true):=HG.out HV.out;clear HC HG HM2 HV;go_wp2_with fail;go_roundw
     case rel=>exact ⟨k+1,by omega,by go_num,trivial,HI2⟩
     case measure=>simp [intOf];omega
    have t0:(97:Int)<=(s[k].toNat:Int):=by omega
    have t1:¬(s[k].toNat:Int)<=122:=by omega
    have t2:(65:Int)<=(s[k].toNat:Int):=by omega
    have t3:¬(s[k].toNat:Int)<=90:=by omega
    have t4:(48:Int)<=(s[k].toNat:Int):=by omega
    have t5:¬(s[k].toNat:Int)<=57:=by omega
    have t6:((s[k].toNat:Int)==95)=false:=bF (by omega);have HV:Hid (nmC (s[k].toNat:Int)=false):=(by show nmC _=_;rw [HC.out];unfold dgB ltB;rw [t6];simp [t0,t1,t2,t3,t4,t5]);have HE:Hid (nmB s=false):=HM2.out HV.out;clear HC HG HM2 HV;go_wp2_with fail;go_ret
    exact ⟨by rw [HE.out];rfl,rfl⟩
   ·obtain rfl:k=s.size:=by omega
    have HE:Hid (nmB s=true):=HN (fun j h=>HI j h h);clear HN HM HI;go_wp2_with fail;go_ret
    exact ⟨by rw [HE.out];rfl,rfl⟩
theorem zdA (s:ByteArray) (hs:s.size<=140737488355328) (w:World):Cl 100 #[.string s] w (rU w (.bool (tmB s))):=by
 by_cases h1:255<s.size
 ·have HE:Hid (tmB s=false):=(by show tmB s=_;unfold tmB;rw [iN (by omega)])
  have z1:(255:Int)<(s.size:Int):=by omega
  clear hs;go_enter Tryz.func100,Tryz.ntmps100;go_wp2_with fail;go_ret
  exact ⟨by rw [HE.out];rfl,rfl⟩
 have z1:¬(255:Int)<(s.size:Int):=by omega
 have HB:Hid (tmB s=zeb s s.size 0):=(by show tmB s=_;unfold tmB;rw [iP (by omega)]);go_enter Tryz.func100,Tryz.ntmps100;go_wp2_with fail;go_loopw [3] (fun t wr=>∃k:Nat,k<=s.size/\t=.int .i64 k/\wr=w/\Hid (∃m,s.size<=k+m/\tmB s=zeb s m k)) (fun t _=>s.size - (intOf t).toNat)
 case atStart=>exact ⟨0,by omega,by go_num,rfl,⟨s.size,by omega,HB.out⟩⟩
 case round =>
  obtain ⟨k,hk,rfl,rfl,HI⟩:=hrel;clear HB;obtain ⟨m,hm,HJ⟩:=HI.out;have HJ:=hO HJ;clear HI;by_cases hlt:k<s.size
  ·have z3:(0:Int)<=(k:Int):=by omega
   have z4:(k:Int)<(s.size:Int):=by omega
   by_cases h37:(s[k].toNat:Int)=37
   ·have e37:((s[k].toNat:Int)==37)=true:=beq_iff_eq.2 h37
    by_cases h2:k+1<s.size
    ·have z5:((k:Int)+1==(s.size:Int))=false:=bF (by omega)
     have z6:(k:Int)+1<(s.size:Int):=by omega
     by_cases g37:(s[k+1].toNat:Int)=37
     ·have f37:((s[k+1].toNat:Int) != 37)=false:=by rw [bne,beq_iff_eq.2 g37];rfl
      have HK:Hid (∃m2,s.size<=k+2+m2/\tmB s=zeb s m2 (k+2)):=by
       obtain ⟨m2,u,v⟩:=zhB hlt hm h37 h2 (.inl g37);exact ⟨m2,u,HJ.trans v⟩
      clear HJ h37 g37;go_wp2_with fail;go_roundw
      case rel=>exact ⟨k+2,by omega,by go_num,trivial,HK⟩
      case measure=>simp [intOf];omega
     ·have f37:((s[k+1].toNat:Int) != 37)=true:=by rw [bne,bF g37];rfl
      by_cases d1:(s[k+1].toNat:Int)<48
      ·have HE:Hid (tmB s=false):=HJ.trans (zjm hlt hm h37 h2 g37 (by unfold dgB;rw [dF (by omega)];rfl))
       clear HJ h37 g37;go_wp2_with fail;go_ret
       exact ⟨by rw [HE.out];rfl,rfl⟩
      ·by_cases d2:57<(s[k+1].toNat:Int)
       ·have HE:Hid (tmB s=false):=HJ.trans (zjm hlt hm h37 h2 g37 (by unfold dgB;rw [dF (p:=(s[k+1].toNat:Int)<=57) (by omega),Bool.and_false]))
        clear HJ h37 g37;go_wp2_with fail;go_ret
        exact ⟨by rw [HE.out];rfl,rfl⟩
       ·have HK:Hid (∃m2,s.size<=k+2+m2/\tmB s=zeb s m2 (k+2)):=by
         obtain ⟨m2,u,v⟩:=zhB hlt hm h37 h2 (.inr (by unfold dgB;rw [decide_eq_true (by omega),decide_eq_true (by omega)];rfl));exact ⟨m2,u,HJ.trans v⟩
        clear HJ h37 g37;go_wp2_with fail;go_roundw
        case rel=>exact ⟨k+2,by omega,by go_num,trivial,HK⟩
        case measure=>simp [intOf];omega
    ·have z5:((k:Int)+1==(s.size:Int))=true:=beq_iff_eq.2 (by omega)
     have HE:Hid (tmB s=false):=HJ.trans (zna hlt hm h37 h2);clear HJ h37;go_wp2_with fail;go_ret
     exact ⟨by rw [HE.out];rfl,rfl⟩
   ·have e37:((s[k].toNat:Int)==37)=false:=bF h37
    have HK:Hid (∃m2,s.size<=k+1+m2/\tmB s=zeb s m2 (k+1)):=by
     obtain ⟨m2,u,v⟩:=zhA hlt hm h37;exact ⟨m2,u,HJ.trans v⟩
    clear HJ h37;go_wp2_with fail;go_roundw
    case rel=>exact ⟨k+1,by omega,by go_num,trivial,HK⟩
    case measure=>simp [intOf];omega
  ·obtain rfl:k=s.size:=by omega
   have HE:Hid (tmB s=true):=HJ.trans (zm9 s m _ (by omega));clear HJ;go_wp2_with fail;go_ret
   exact ⟨by rw [HE.out];rfl,rfl⟩
end Go.Proofs.YtkihfkcmcdiajabGreatDoor.T
