import Derived.Test.YtkihfkcmcdiajabGreatDoorPo20
set_option maxRecDepth 100000
set_option maxHeartbeats 8000000
namespace Go.Proofs.YtkihfkcmcdiajabGreatDoor.N
open Go.RowKit
section
variable {E:PE} {z:Nat} {w0 W:World} {tv:Value} {nb:Nat} {v0:Value} {Wc W':World} {st:St} {i d:Int} {A:Option Addr} {l c:Nat} {p q:Int}
theorem WS.olt (h:WS E z w0 tv W nb v0 Wc st i d A l c p q) {j:Nat} (e:(ow st (.slice A l c)).ownBlock=some j):j<Wc.heap.size:=by
 have h1:=h.rv
 cases st with
 | inl s=>exact (h1.2.2.2.2.2.o.lt j e).2
 | inr s=>cases e
theorem WS.oth (h:WS E z w0 tv W nb v0 Wc st i d A l c p q) {x:Nat} (hx:W.heap.size<=x) (hn:∀j,(ow st (.slice A l c)).ownBlock=some j->j≠x) (hb:bW w0 Wc->bW w0 W') (hs:Wc.heap.size<=W'.heap.size) (ho:∀j,j≠x->W'.heap[j]?=Wc.heap[j]?):WS E z w0 tv W nb v0 W' st i d A l c p q :=
 ⟨h.rv.moved hb (fun j e=>ho j (by have:=h.tk j e;omega)) (fun j e=>ho j (hn j e)),⟨Nat.le_trans h.fd.size hs,fun j hj e=>(ho j (by omega)).trans (h.fd.block j hj e),h.fd.own⟩,h.ap,h.tk,Nat.le_trans h.sz hs,h.lo⟩
theorem WS.setO (h:WS E z w0 tv W nb v0 Wc st i d A l c p q) {x:Nat} (hx:W.heap.size<=x) (hn:∀j,(ow st (.slice A l c)).ownBlock=some j->j≠x) (j:Nat) (u:Value):WS E z w0 tv W nb v0 (Wc.setCell ⟨x,j,none⟩ u) st i d A l c p q :=
 h.oth hx hn (fun hb=>hb.setCell (p:=⟨x,j,none⟩) (Nat.le_trans h.lo hx) _) (by simp [World.setCell]) fun _ hj=>bS _ _ _ _ hj
theorem WS.st7O (h:WS E z w0 tv W nb v0 Wc st i d A l c p q) {x:Nat} (hx:W.heap.size<=x) (hn:∀j,(ow st (.slice A l c)).ownBlock=some j->j≠x) (a0 a1 a2 a3 a4 a5 a6:Value):WS E z w0 tv W nb v0 (N.st7 Wc x a0 a1 a2 a3 a4 a5 a6) st i d A l c p q :=
 h.oth hx hn (fun hb=>zaq hb (Nat.le_trans h.lo hx) _ _ _ _ _ _ _) (by rw [zem];exact nL _) fun _ hj=>zaw _ _ _ _ _ _ _ hj
end
theorem BX.setO {k:Nat} {W:World} {tv:Value} {i z d:Int} {v:Value} {p c:Int} (h:BX k W tv i z d v p c) {x:Nat} (hx:k+2<=x) (j:Nat) (u:Value):BX k (W.setCell ⟨x,j,none⟩ u) tv i z d v p c:=⟨h.s.same (bS _ _ _ _ (by show k≠x;omega)),h.r.same (bS _ _ _ _ (by show k+1≠x;omega))⟩
theorem BX.st7O {k:Nat} {W:World} {tv:Value} {i z d:Int} {v:Value} {p c:Int} (h:BX k W tv i z d v p c) {x:Nat} (hx:k+2<=x) (a0 a1 a2 a3 a4 a5 a6:Value):BX k (st7 W x a0 a1 a2 a3 a4 a5 a6) tv i z d v p c:=⟨h.s.same (zaw _ _ _ _ _ _ _ (by omega)),h.r.same (zaw _ _ _ _ _ _ _ (by omega))⟩
theorem zhj {W:World} {x:Nat} {m:Nd} (h:T.NX W x m) (n:Nd):T.NX (st7 W x (.int .i64 n.op) (.int .i64 n.nn) (.string n.tx) (.int .u64 n.s0) (.int .u64 n.s1) (.int .u64 n.s2) (.int .u64 n.s3)) x n:=by
 have h0:=heap_setCell_same _ x 0 _ 65 (.int .i64 n.op) h.heap;have h1:=heap_setCell_same _ x 1 _ 65 (.int .i64 n.nn) h0;have h2:=heap_setCell_same _ x 2 _ 65 (.string n.tx) h1;have h3:=heap_setCell_same _ x 3 _ 65 (.int .u64 n.s0) h2;have h4:=heap_setCell_same _ x 4 _ 65 (.int .u64 n.s1) h3;have h5:=heap_setCell_same _ x 5 _ 65 (.int .u64 n.s2) h4;have h6:=heap_setCell_same _ x 6 _ 65 (.int .u64 n.s3) h5;refine ⟨?_⟩;rw [h6];simp
theorem znp {E:PE} {z:Nat} {w0 W:World} {At:Option Addr} {ct:Nat} {a d:Nat} {L M:List Nd} {A:Option Addr} {l c:Nat} (h:Rv E z w0 (.slice At E.l.length ct) W (.inl (a,d,L++M)) a d A l c 0 0) (n:Nd) (hn:n.op≠0) (hl:(L++M).length+1<=2000000000000) :
  Cl 54 #[rdV (.slice At E.l.length ct) a z d (.slice A l c) 0 0,T.ndG n] W fun e W'=>∃(A2:Option Addr) (l2 c2:Nat),e=.returned (rdV (.slice At E.l.length ct) a z d (.slice A2 l2 c2) 0 0)/\Rv E z w0 (.slice At E.l.length ct) W' (.inl (a,d,L++(M++[n]))) a d A2 l2 c2 0 0/\Fd W W' (.slice A l c) (.slice A2 l2 c2):=by
 refine (putU h n fun s e=>by obtain rfl:=Sum.inl.inj e;exact hl).mono ?_;rintro e W' ⟨i2,d2,A2,l2,c2,p2,q2,rfl,hr,hf⟩;have hp:zgr n (.inl (a,d,L++M))=.inl (a,d,L++(M++[n])):=by unfold zgr;rw [iN hn];show Sum.inl (a,d,(L++M)++[n])=_;rw [List.append_assoc]
 rw [hp] at hr hf;have h9:q2=0/\p2=0/\i2=(a:Int)/\d2=(d:Int)/\l2=(L++(M++[n])).length/\DS E w0 W' (.slice At E.l.length ct) a d (.slice A2 l2 c2) (L++(M++[n])):=hr;obtain ⟨rfl,rfl,rfl,rfl,_,_⟩:=h9;exact ⟨A2,l2,c2,rfl,hr,hf⟩
def SuI (E:PE) (d i:Nat) (L:List Nd) (R0:PR) (st:St):Prop:=(∃a M,st=.inl (a,d,L++M)/\i<a/\a<=E.l.length/\(L++M).length<=10027010 * a/\R0=ahd M (gN E 6 a d))∨∃q,st=.inr q/\q.2≠0/\R0=.inr q
theorem nxF {W:World} {b:Nat} {n:Nd} (h:T.NX W b n):W.frozen? ⟨b,0,none⟩=false/\W.frozen? ⟨b,1,none⟩=false/\W.frozen? ⟨b,2,none⟩=false/\W.frozen? ⟨b,3,none⟩=false/\W.frozen? ⟨b,4,none⟩=false/\W.frozen? ⟨b,5,none⟩=false/\W.frozen? ⟨b,6,none⟩=false:=⟨h.fz 0,h.fz 1,h.fz 2,h.fz 3,h.fz 4,h.fz 5,h.fz 6⟩
theorem zmH {E:PE} (hE:OkE E) {z:Nat} {w0:World} {tv:Value} {i d:Nat} (hb:bgP E i=true) (HP:Cd 120 E z w0 tv i d (gN E 5 i d)):Cd 97 E z w0 tv i d (gS E i d):=by
 intro W v L h hL;have hlt:=zfh hb;have hi:=h.hi;have hlen:=hE.len;have hz:=hE.z;obtain ⟨B,cB,hv⟩:=zaf h.o;subst hv;obtain ⟨At,ct,htv,hc⟩:=h.tk;subst htv;obtain ⟨g,rfl,lg,hz9⟩:=hc i hlt;clear hc lg hz9
 suffices Hm:Cl 97 #[rdV (.slice (some ⟨g,0,none⟩) E.l.length ct) i z d (.slice B L.length cB) 0 0] W fun e W'=>Pu E z w0 (.slice (some ⟨g,0,none⟩) E.l.length ct) W (.slice B L.length cB) (.inl (i,d,L)) (stR d L (gS E i d)) e W' from Hm.mono fun _ _ hp=>hp.pod
 obtain ⟨R0,hR0⟩:∃r,r=gS E i d:=⟨_,rfl⟩;have hG:R0=bnd (gN E 5 i d) fun a ns=>ahd ns (gN E 6 a d):=by rw [hR0];unfold gS;rw [iP hb]
 obtain ⟨c0,hc0⟩:∃s,s=(.inl (i,d,L):St):=⟨_,rfl⟩;obtain ⟨c1,hc1⟩:∃s,s=stR d L (gN E 5 i d):=⟨_,rfl⟩;have HPm:Hid (∀W,Rv E z w0 (.slice (some ⟨g,0,none⟩) E.l.length ct) W c0 i d B L.length cB 0 0->Cl 120 #[rdV (.slice (some ⟨g,0,none⟩) E.l.length ct) i z d (.slice B L.length cB) 0 0] W fun e W'=>Pu E z w0 (.slice (some ⟨g,0,none⟩) E.l.length ct) W (.slice B L.length cB) c0 c1 e W'):=fun W h=>by
  rw [hc0] at h;rw [hc0,hc1];exact (HP W _ L h.2.2.2.2.2 hL).mono fun _ _ hp=>hp.u fun q hq=>by
   have:=(zbA hi (fun _=>hlt) hq).2;omega
 have HI1:Hid (SuI E d i L R0 c1):=by
  cases hr:gN E 5 i d with
  | inr q =>
   have:=(zbA hi (fun _=>hlt) hr).2;exact .inr ⟨q,by rw [hc1,hr];rfl,by omega,by rw [hG,hr];rfl⟩
  | inl p =>
   have hadv:=zbN hi (fun _=>hlt) hr;have hlenN:=(zbW hE.rl hi (fun _=>hlt) hr).1 (by omega);have h3:=hadv.2.2 (by omega);exact .inl ⟨p.1,p.2,by rw [hc1,hr];rfl,h3,hadv.2.1,by rw [lA];omega,by rw [hG,hr];rfl⟩
 have HTm:Hid (E.tm=T.tmB):=hE.tm;have HTx:Hid (∀a,a<E.l.length->(tkA E a).tx.size<=140737488355328):=fun a ha=>by
  have:tkA E a∈E.l:=by unfold tkA;rw [gE ha];exact List.getElem_mem ha
  exact Nat.le_trans (hE.tx _ this) (by omega)
 have HN0:Hid (∀a,a<E.l.length->kdA E a=10∨kdA E a=11∨kdA E a=12->(tkA E a).nn=0):=fun a ha hk=>by
  have:tkA E a∈E.l:=by unfold tkA;rw [gE ha];exact List.getElem_mem ha
  exact hE.n0 _ this (by rw [zc4 ha];exact hk)
 have HX:=BX.new W (.slice (some ⟨g,0,none⟩) E.l.length ct) i z d (.slice B L.length cB) 0 0;have HB:=hO HX.1;have HW:Hid (WS E z w0 (.slice (some ⟨g,0,none⟩) E.l.length ct) W 2 (.slice B L.length cB) ((W.alloc (rdO (.slice (some ⟨g,0,none⟩) E.l.length ct) i z d (.slice B L.length cB) 0 0)).alloc rdZ) c0 i d B L.length cB 0 0):=by
  rw [hc0];exact WS.new h HX.2 (by rw [sA,sA];omega)
 rw [<-hR0,<-hc0];have HC0:=hO hc0;have HLe:Hid (E.l.length<=65536):=hlen;clear hc0 hc1 hG hR0 HX h hL hE hlt hlen hi hb HP;go_enter Tryz.func97,Tryz.ntmps97;go_wp2_with fail;generalize (W.alloc (rdO (.slice (some ⟨g,0,none⟩) E.l.length ct) i z d (.slice B L.length cB) 0 0)).alloc rdZ=w1 at *;refine (HPm _ HW.rv).mono ?_;rintro e w2 ⟨i2,d2,A2,l2,c2,p2,q2,rfl,hr,hf⟩;have HB2:=hO (HB.kept (HW.keep hf));have HW2:=hO (HW.call hr hf);clear hr hf HPm HW HB;obtain ⟨k0,k1,k2,k3,k4,k5,k6⟩:=HB2.s.cl;obtain ⟨f0,f1,f2,f3,f4,f5,f6⟩:=HB2.s.fzs;go_wp2_with fail;have HIn:Hid (BX W.heap.size (st7 w2 W.heap.size (.slice (some ⟨g,0,none⟩) E.l.length ct) (.int .i64 i2) (.int .i64 z) (.int .i64 d2) (.slice A2 l2 c2) (.int .i64 p2) (.int .i64 q2)) (.slice (some ⟨g,0,none⟩) E.l.length ct) i2 z d2 (.slice A2 l2 c2) p2 q2/\WS E z w0 (.slice (some ⟨g,0,none⟩) E.l.length ct) W 2 (.slice B L.length cB) (st7 w2 W.heap.size (.slice (some ⟨g,0,none⟩) E.l.length ct) (.int .i64 i2) (.int .i64 z) (.int .i64 d2) (.slice A2 l2 c2) (.int .i64 p2) (.int .i64 q2)) c1 i2 d2 A2 l2 c2 p2 q2/\SuI E d i L R0 c1):=⟨HB2.st _ _ _ _ _ _ _,HW2.st7 (nL _) (by omega) _ _ _ _ _ _ _,HI1.out⟩;clear HB2 HW2 HI1 k0 k1 k2 k3 k4 k5 k6 f0 f1 f2 f3 f4 f5 f6
 go_loopw [6] (fun _ wr=>∃(st:St) (i3 d3:Int) (A1:Option Addr) (l1 c1:Nat) (p3 q3:Int),Hid (BX W.heap.size wr (.slice (some ⟨g,0,none⟩) E.l.length ct) i3 z d3 (.slice A1 l1 c1) p3 q3/\WS E z w0 (.slice (some ⟨g,0,none⟩) E.l.length ct) W 2 (.slice B L.length cB) wr st i3 d3 A1 l1 c1 p3 q3/\SuI E d i L R0 st)) (fun _ wr=>mD W.heap.size E.l.length wr)
 case atStart=>exact ⟨_,_,_,_,_,_,_,_,HIn⟩
 case round =>
  clear HIn;obtain ⟨st,i3,d3,A1,l1,c1,p3,q3,HR⟩:=hrel
  rcases HR.out.2.2 with ⟨a,M,rfl,ha1,ha2,hlm,hR⟩ | ⟨q,rfl,hq,hR⟩
  ·have h9:q3=0/\p3=0/\i3=(a:Int)/\d3=(d:Int)/\l1=(L++M).length/\DS E w0 wr (.slice (some ⟨g,0,none⟩) E.l.length ct) a d (.slice A1 l1 c1) (L++M):=HR.2.1.rv
   obtain ⟨rfl,rfl,rfl,rfl,hz8,hz9⟩:=h9;clear hz8 hz9;have HX4:Hid (BX W.heap.size wr (.slice (some ⟨g,0,none⟩) E.l.length ct) a z d (.slice A1 l1 c1) 0 0):=HR.1;have HW4:Hid (WS E z w0 (.slice (some ⟨g,0,none⟩) E.l.length ct) W 2 (.slice B L.length cB) wr (.inl (a,d,L++M)) a d A1 l1 c1 0 0):=HR.2.1;have HM:Hid (mD W.heap.size E.l.length wr=E.l.length+1 - a):=zdU HR.1;have HRa:Hid (i<a/\a<=E.l.length/\(L++M).length<=10027010 * a/\R0=ahd M (gN E 6 a d)):=⟨ha1,ha2,hlm,hR⟩;have HOk:Hid (∀W,Cl 15 #[rdV (.slice (some ⟨g,0,none⟩) E.l.length ct) a z d (.slice A1 l1 c1) 0 0] W (rB W (.bool true))):=fun W=>zaP (some ⟨g,0,none⟩) E.l.length ct a z d A1 l1 c1 0 0 W
   have HKd:Hid (∀W2,Rv E z w0 (.slice (some ⟨g,0,none⟩) E.l.length ct) W2 (.inl (a,d,L++M)) a d A1 l1 c1 0 0->Cl 39 #[rdV (.slice (some ⟨g,0,none⟩) E.l.length ct) a z d (.slice A1 l1 c1) 0 0,.int .i64 0] W2 (rB W2 (.int .i64 (kdA E a)))):=fun W2 h=>za4 h.2.2.2.2.2 z d 0 0 0 a (by omega) (by omega) hz
   clear HR ha1 ha2 hlm hR;obtain ⟨k0,k1,k2,k3,k4,k5,k6⟩:=HX4.s.cl;go_wp2_with fail;refine (HOk _).mono ?_;rintro e w5 ⟨rfl,hb⟩;have HX5:Hid (BX W.heap.size (w5.alloc (T.ndO (nd0 0))) (.slice (some ⟨g,0,none⟩) E.l.length ct) a z d (.slice A1 l1 c1) 0 0):=(HX4.later hb).later (zaa _ _);have HW5:Hid (WS E z w0 (.slice (some ⟨g,0,none⟩) E.l.length ct) W 2 (.slice B L.length cB) (w5.alloc (T.ndO (nd0 0))) (.inl (a,d,L++M)) a d A1 l1 c1 0 0):=(HW4.later hb).later (zaa _ _);have HN5:Hid (T.NX (w5.alloc (T.ndO (nd0 0))) w5.heap.size (nd0 0)):=⟨heap_alloc_new w5 _⟩;have HO5:Hid ((∀j,(ow (.inl (a,d,L++M)) (.slice A1 l1 c1)).ownBlock=some j->j≠w5.heap.size)/\W.heap.size+2<=w5.heap.size):=⟨fun j e=>by have:=(HW4.later hb).olt e;omega,(HW4.later hb).sz⟩;have HX5':=hO (HX4.later hb);have hk5:¬W.heap.size=w5.heap.size:=by have:=HO5.2;omega
   have hk6:W.heap.size<w5.heap.size:=by have:=HO5.2;omega
   clear hb HOk HX4 HW4 k0 k1 k2 k3 k4 k5 k6;obtain ⟨k0,k1,k2,k3,k4,k5,k6⟩:=HX5'.s.cl;go_wp2_with fail;clear k0 k1 k2 k3 k4 k5 k6 HX5' hk5 hk6;refine (HKd _ HW5.rv).mono ?_;rintro e w6 ⟨rfl,hb⟩;have HX6:=hO (HX5.later hb);have HW6:=hO (HW5.later hb);have HN6:Hid (T.NX w6 w5.heap.size (nd0 0)):=HN5.same (hb.block _ HN5.lt);clear hb HKd HX5 HW5 HN5;generalize w5.heap.size=x at *;have hx1:¬x=W.heap.size:=by have:=HO5.2;omega
   have hx2:¬W.heap.size=x:=by have:=HO5.2;omega
   have hx3:¬W.heap.size+1=x:=by have:=HO5.2;omega
   have HXL:Hid (W.heap.size<=x):=by have:=HO5.2;show _<=x;omega
   by_cases hsf:sfB (kdA E a)=true
   ·have hal:a<E.l.length:=za9 (fun q=>by rw [q] at hsf;cases hsf)
    have hV:=g6_sf E a d (by omega) hsf (HN0 a hal);obtain ⟨j,hj⟩:∃j,j=a+1:=⟨_,rfl⟩;have u1:IntKind.i64.wrap ((a:Int)+1)=(j:Int):=by rw [wI];omega
    have HAj:Hid (a<j):=by show a<j;omega
    have HLn:Hid ((L++M).length+1<=2000000000000):=by have:=HRa.2.2.1;have:=HLe.out;show _+1<=_;omega
    have HUp:Hid (∀W2,WS E z w0 (.slice (some ⟨g,0,none⟩) E.l.length ct) W 2 (.slice B L.length cB) W2 (.inl (a,d,L++M)) a d A1 l1 c1 0 0->WS E z w0 (.slice (some ⟨g,0,none⟩) E.l.length ct) W 2 (.slice B L.length cB) W2 (.inl (j,d,L++M)) j d A1 l1 c1 0 0):=fun W2 hh=>by
     have:=hh.up (fun s e=>by obtain rfl:=Sum.inl.inj e;exact hal) hz;rw [u1] at this;rw [hj] at this ⊢;exact this
    have hV2:R0=ahd (M++[⟨sfO (kdA E a),(tkA E a).nn,⟨#[]⟩,0,0,0,0⟩]) (gN E 6 j d):=by rw [HRa.2.2.2,hV,zcs,hj]
    have HNx:Hid (i<j/\j<=E.l.length/\∀n:Nd,(L++(M++[n])).length<=10027010 * j):=⟨by have:=HRa.1;omega,by omega,fun n=>by have:=HRa.2.2.1;rw [<-List.append_assoc,lA,List.length_singleton];omega⟩;have HTk:Hid (w6.cell? ⟨g,a * 9+1,none⟩=some (.int .i64 (tkA E a).nn)):=by
     have hd6:DS E w0 w6 (.slice (some ⟨g,0,none⟩) E.l.length ct) a d (.slice A1 l1 c1) (L++M):=HW6.rv.2.2.2.2.2;obtain ⟨A',c',e',hc⟩:=hd6.tk;obtain ⟨g',hA,_,hr⟩:=hc a hal
     cases e'
     cases hA
     exact hr.c1
    have hn0:=HN0 a hal;have z0:(0:Int)<=(a:Int):=by omega
    have z1:(a:Int)<(E.l.length:Int):=by omega
    clear hV hj hal;unfold sfB at hsf;simp only [Bool.or_eq_true,beq_iff_eq] at hsf;generalize kdA E a=kk at *;have hcs:((kk=10/\sfO kk=11)∨(kk=11/\sfO kk=9)∨(kk=12/\sfO kk=10))∨((kk=13/\sfO kk=14)∨(kk=14/\sfO kk=15)∨(kk=15/\sfO kk=16)):=by
     rcases hsf with ((((q | q) | q) | q) | q) | q <;> subst q <;> simp [sfO]
    clear hsf
    rcases hcs with hcs | hcs
    ·have hnn:=hn0 (by omega)
     rw [hnn] at hV2;clear hnn hn0 HTk z0 z1
     rcases hcs with ⟨rfl,hop⟩ | ⟨rfl,hop⟩ | ⟨rfl,hop⟩
     ·rw [hop] at hV2
      have HV:=hO hV2;clear hV2 hop;obtain ⟨k0,k1,k2,k3,k4,k5,k6⟩:=HX6.s.cl;obtain ⟨f0,f1,f2,f3,f4,f5,f6⟩:=HX6.s.fzs;obtain ⟨n0,n1,n2,n3,n4,n5,n6⟩:=zce HN6.out;obtain ⟨e0,e1,e2,e3,e4,e5,e6⟩:=nxF HN6;go_wp2_with fail;have HW9:=hO (HUp _ ((HW6.setO (x:=x) HXL.out HO5.1 0 (.int .i64 11)).set (nL _) (by omega) 1 (.int .i64 j)));have HX9:=hO ((HX6.setO HO5.2 0 (.int .i64 11)).s1 j);clear HX6 HW6 HN6 HUp k0 k1 k2 k3 k4 k5 k6 f0 f1 f2 f3 f4 f5 f6 n0 n1 n2 n3 n4 n5 n6 e0 e1 e2 e3 e4 e5 e6;refine (znp HW9.rv (nd0 11) (show (11:Int)≠0 by decide) HLn.out).mono ?_;rintro e wA ⟨A2,l2,c2,rfl,hr,hf⟩;have HXA:Hid (BX W.heap.size wA (.slice (some ⟨g,0,none⟩) E.l.length ct) j z d (.slice A1 l1 c1) 0 0):=HX9.kept (HW9.keep hf);have HWA:Hid (WS E z w0 (.slice (some ⟨g,0,none⟩) E.l.length ct) W 2 (.slice B L.length cB) wA (.inl (j,d,L++(M++[(nd0 11)]))) j d A2 l2 c2 0 0):=HW9.call hr hf;clear hr hf HX9 HW9;obtain ⟨k0,k1,k2,k3,k4,k5,k6⟩:=HXA.s.cl;obtain ⟨f0,f1,f2,f3,f4,f5,f6⟩:=HXA.s.fzs;go_wp2_with fail;go_roundw
      case rel=>exact ⟨_,_,_,_,_,_,_,_,HXA.st (.slice (some ⟨g,0,none⟩) E.l.length ct) j z d (.slice A2 l2 c2) 0 0,HWA.st7 (nL _) (by omega) _ _ _ _ _ _ _,.inl ⟨j,M++[(nd0 11)],rfl,HNx.1,HNx.2.1,HNx.2.2 _,HV.out⟩⟩
      case measure =>
       rw [HM.out];refine Nat.lt_of_le_of_lt (Nat.le_of_eq (zdU (HXA.st (.slice (some ⟨g,0,none⟩) E.l.length ct) j z d (.slice A2 l2 c2) 0 0))) ?_;have h1:=HNx.1;have h2:=HNx.2.1;have h3:=HAj.out;omega
     ·rw [hop] at hV2
      have HV:=hO hV2;clear hV2 hop;obtain ⟨k0,k1,k2,k3,k4,k5,k6⟩:=HX6.s.cl;obtain ⟨f0,f1,f2,f3,f4,f5,f6⟩:=HX6.s.fzs;obtain ⟨n0,n1,n2,n3,n4,n5,n6⟩:=zce HN6.out;obtain ⟨e0,e1,e2,e3,e4,e5,e6⟩:=nxF HN6;go_wp2_with fail;have HW9:=hO (HUp _ ((HW6.setO (x:=x) HXL.out HO5.1 0 (.int .i64 9)).set (nL _) (by omega) 1 (.int .i64 j)));have HX9:=hO ((HX6.setO HO5.2 0 (.int .i64 9)).s1 j);clear HX6 HW6 HN6 HUp k0 k1 k2 k3 k4 k5 k6 f0 f1 f2 f3 f4 f5 f6 n0 n1 n2 n3 n4 n5 n6 e0 e1 e2 e3 e4 e5 e6;refine (znp HW9.rv (nd0 9) (show (9:Int)≠0 by decide) HLn.out).mono ?_;rintro e wA ⟨A2,l2,c2,rfl,hr,hf⟩;have HXA:Hid (BX W.heap.size wA (.slice (some ⟨g,0,none⟩) E.l.length ct) j z d (.slice A1 l1 c1) 0 0):=HX9.kept (HW9.keep hf);have HWA:Hid (WS E z w0 (.slice (some ⟨g,0,none⟩) E.l.length ct) W 2 (.slice B L.length cB) wA (.inl (j,d,L++(M++[(nd0 9)]))) j d A2 l2 c2 0 0):=HW9.call hr hf;clear hr hf HX9 HW9;obtain ⟨k0,k1,k2,k3,k4,k5,k6⟩:=HXA.s.cl;obtain ⟨f0,f1,f2,f3,f4,f5,f6⟩:=HXA.s.fzs;go_wp2_with fail;go_roundw
      case rel=>exact ⟨_,_,_,_,_,_,_,_,HXA.st (.slice (some ⟨g,0,none⟩) E.l.length ct) j z d (.slice A2 l2 c2) 0 0,HWA.st7 (nL _) (by omega) _ _ _ _ _ _ _,.inl ⟨j,M++[(nd0 9)],rfl,HNx.1,HNx.2.1,HNx.2.2 _,HV.out⟩⟩
      case measure =>
       rw [HM.out];refine Nat.lt_of_le_of_lt (Nat.le_of_eq (zdU (HXA.st (.slice (some ⟨g,0,none⟩) E.l.length ct) j z d (.slice A2 l2 c2) 0 0))) ?_;have h1:=HNx.1;have h2:=HNx.2.1;have h3:=HAj.out;omega
     ·rw [hop] at hV2
      have HV:=hO hV2;clear hV2 hop;obtain ⟨k0,k1,k2,k3,k4,k5,k6⟩:=HX6.s.cl;obtain ⟨f0,f1,f2,f3,f4,f5,f6⟩:=HX6.s.fzs;obtain ⟨n0,n1,n2,n3,n4,n5,n6⟩:=zce HN6.out;obtain ⟨e0,e1,e2,e3,e4,e5,e6⟩:=nxF HN6;go_wp2_with fail;have HW9:=hO (HUp _ ((HW6.setO (x:=x) HXL.out HO5.1 0 (.int .i64 10)).set (nL _) (by omega) 1 (.int .i64 j)));have HX9:=hO ((HX6.setO HO5.2 0 (.int .i64 10)).s1 j);clear HX6 HW6 HN6 HUp k0 k1 k2 k3 k4 k5 k6 f0 f1 f2 f3 f4 f5 f6 n0 n1 n2 n3 n4 n5 n6 e0 e1 e2 e3 e4 e5 e6;refine (znp HW9.rv (nd0 10) (show (10:Int)≠0 by decide) HLn.out).mono ?_;rintro e wA ⟨A2,l2,c2,rfl,hr,hf⟩;have HXA:Hid (BX W.heap.size wA (.slice (some ⟨g,0,none⟩) E.l.length ct) j z d (.slice A1 l1 c1) 0 0):=HX9.kept (HW9.keep hf);have HWA:Hid (WS E z w0 (.slice (some ⟨g,0,none⟩) E.l.length ct) W 2 (.slice B L.length cB) wA (.inl (j,d,L++(M++[(nd0 10)]))) j d A2 l2 c2 0 0):=HW9.call hr hf;clear hr hf HX9 HW9;obtain ⟨k0,k1,k2,k3,k4,k5,k6⟩:=HXA.s.cl;obtain ⟨f0,f1,f2,f3,f4,f5,f6⟩:=HXA.s.fzs;go_wp2_with fail;go_roundw
      case rel=>exact ⟨_,_,_,_,_,_,_,_,HXA.st (.slice (some ⟨g,0,none⟩) E.l.length ct) j z d (.slice A2 l2 c2) 0 0,HWA.st7 (nL _) (by omega) _ _ _ _ _ _ _,.inl ⟨j,M++[(nd0 10)],rfl,HNx.1,HNx.2.1,HNx.2.2 _,HV.out⟩⟩
      case measure =>
       rw [HM.out];refine Nat.lt_of_le_of_lt (Nat.le_of_eq (zdU (HXA.st (.slice (some ⟨g,0,none⟩) E.l.length ct) j z d (.slice A2 l2 c2) 0 0))) ?_;have h1:=HNx.1;have h2:=HNx.2.1;have h3:=HAj.out;omega
    ·clear hn0
     have tk1:=HTk.out;generalize (tkA E a).nn=nn at *
     rcases hcs with ⟨rfl,hop⟩ | ⟨rfl,hop⟩ | ⟨rfl,hop⟩
     ·rw [hop] at hV2
      have HV:=hO hV2;clear hV2 hop;obtain ⟨k0,k1,k2,k3,k4,k5,k6⟩:=HX6.s.cl;obtain ⟨f0,f1,f2,f3,f4,f5,f6⟩:=HX6.s.fzs;obtain ⟨n0,n1,n2,n3,n4,n5,n6⟩:=zce HN6.out;obtain ⟨e0,e1,e2,e3,e4,e5,e6⟩:=nxF HN6;obtain ⟨wn,hwn⟩:∃w,(((((((w6.setCell ⟨x,0,none⟩ (.int .i64 14)).setCell ⟨x,1,none⟩ (.int .i64 nn)).setCell ⟨x,2,none⟩ (.string ⟨#[]⟩)).setCell ⟨x,3,none⟩ (.int .u64 0)).setCell ⟨x,4,none⟩ (.int .u64 0)).setCell ⟨x,5,none⟩ (.int .u64 0)).setCell ⟨x,6,none⟩ (.int .u64 0))=w:=⟨_,rfl⟩;have HXn:Hid (BX W.heap.size wn (.slice (some ⟨g,0,none⟩) E.l.length ct) a z d (.slice A1 l1 c1) 0 0):=by rw [<-hwn];exact HX6.st7O HO5.2 _ _ _ _ _ _ _
      have HWn:Hid (WS E z w0 (.slice (some ⟨g,0,none⟩) E.l.length ct) W 2 (.slice B L.length cB) wn (.inl (a,d,L++M)) a d A1 l1 c1 0 0):=by rw [<-hwn];exact HW6.st7O (x:=x) HXL.out HO5.1 _ _ _ _ _ _ _
      have HNn:Hid (T.NX wn x ⟨14,nn,⟨#[]⟩,0,0,0,0⟩):=by rw [<-hwn];exact zhj HN6.out ⟨14,nn,⟨#[]⟩,0,0,0,0⟩
      have HEn:=hO hwn;clear hwn;obtain ⟨h0,h1,h2,h3,h4,h5,h6⟩:=HXn.s.cl;have g1:=HXn.s.fz 1;obtain ⟨r0,r1,r2,r3,r4,r5,r6⟩:=zce HNn.out;go_wp2_with (rw [HEn.out])
      have HW9:=hO (HUp _ (HWn.set (nL _) (by omega) 1 (.int .i64 j)));have HX9:=hO (HXn.s1 j);clear HX6 HW6 HN6 HUp tk1 HTk k0 k1 k2 k3 k4 k5 k6 f0 f1 f2 f3 f4 f5 f6 n0 n1 n2 n3 n4 n5 n6 e0 e1 e2 e3 e4 e5 e6 h0 h1 h2 h3 h4 h5 h6 g1 r0 r1 r2 r3 r4 r5 r6 HEn HNn HXn HWn;refine (znp HW9.rv ⟨14,nn,⟨#[]⟩,0,0,0,0⟩ (show (14:Int)≠0 by decide) HLn.out).mono ?_;rintro e wA ⟨A2,l2,c2,rfl,hr,hf⟩;have HXA:Hid (BX W.heap.size wA (.slice (some ⟨g,0,none⟩) E.l.length ct) j z d (.slice A1 l1 c1) 0 0):=HX9.kept (HW9.keep hf);have HWA:Hid (WS E z w0 (.slice (some ⟨g,0,none⟩) E.l.length ct) W 2 (.slice B L.length cB) wA (.inl (j,d,L++(M++[⟨14,nn,⟨#[]⟩,0,0,0,0⟩]))) j d A2 l2 c2 0 0):=HW9.call hr hf;clear hr hf HX9 HW9;obtain ⟨k0,k1,k2,k3,k4,k5,k6⟩:=HXA.s.cl;obtain ⟨f0,f1,f2,f3,f4,f5,f6⟩:=HXA.s.fzs;go_wp2_with fail;go_roundw
      case rel=>exact ⟨_,_,_,_,_,_,_,_,HXA.st (.slice (some ⟨g,0,none⟩) E.l.length ct) j z d (.slice A2 l2 c2) 0 0,HWA.st7 (nL _) (by omega) _ _ _ _ _ _ _,.inl ⟨j,M++[⟨14,nn,⟨#[]⟩,0,0,0,0⟩],rfl,HNx.1,HNx.2.1,HNx.2.2 _,HV.out⟩⟩
      case measure =>
       rw [HM.out];refine Nat.lt_of_le_of_lt (Nat.le_of_eq (zdU (HXA.st (.slice (some ⟨g,0,none⟩) E.l.length ct) j z d (.slice A2 l2 c2) 0 0))) ?_;have h1:=HNx.1;have h2:=HNx.2.1;have h3:=HAj.out;omega
     ·rw [hop] at hV2
      have HV:=hO hV2;clear hV2 hop;obtain ⟨k0,k1,k2,k3,k4,k5,k6⟩:=HX6.s.cl;obtain ⟨f0,f1,f2,f3,f4,f5,f6⟩:=HX6.s.fzs;obtain ⟨n0,n1,n2,n3,n4,n5,n6⟩:=zce HN6.out;obtain ⟨e0,e1,e2,e3,e4,e5,e6⟩:=nxF HN6;obtain ⟨wn,hwn⟩:∃w,(((((((w6.setCell ⟨x,0,none⟩ (.int .i64 15)).setCell ⟨x,1,none⟩ (.int .i64 nn)).setCell ⟨x,2,none⟩ (.string ⟨#[]⟩)).setCell ⟨x,3,none⟩ (.int .u64 0)).setCell ⟨x,4,none⟩ (.int .u64 0)).setCell ⟨x,5,none⟩ (.int .u64 0)).setCell ⟨x,6,none⟩ (.int .u64 0))=w:=⟨_,rfl⟩;have HXn:Hid (BX W.heap.size wn (.slice (some ⟨g,0,none⟩) E.l.length ct) a z d (.slice A1 l1 c1) 0 0):=by rw [<-hwn];exact HX6.st7O HO5.2 _ _ _ _ _ _ _
      have HWn:Hid (WS E z w0 (.slice (some ⟨g,0,none⟩) E.l.length ct) W 2 (.slice B L.length cB) wn (.inl (a,d,L++M)) a d A1 l1 c1 0 0):=by rw [<-hwn];exact HW6.st7O (x:=x) HXL.out HO5.1 _ _ _ _ _ _ _
      have HNn:Hid (T.NX wn x ⟨15,nn,⟨#[]⟩,0,0,0,0⟩):=by rw [<-hwn];exact zhj HN6.out ⟨15,nn,⟨#[]⟩,0,0,0,0⟩
      have HEn:=hO hwn;clear hwn;obtain ⟨h0,h1,h2,h3,h4,h5,h6⟩:=HXn.s.cl;have g1:=HXn.s.fz 1;obtain ⟨r0,r1,r2,r3,r4,r5,r6⟩:=zce HNn.out;go_wp2_with (rw [HEn.out])
      have HW9:=hO (HUp _ (HWn.set (nL _) (by omega) 1 (.int .i64 j)));have HX9:=hO (HXn.s1 j);clear HX6 HW6 HN6 HUp tk1 HTk k0 k1 k2 k3 k4 k5 k6 f0 f1 f2 f3 f4 f5 f6 n0 n1 n2 n3 n4 n5 n6 e0 e1 e2 e3 e4 e5 e6 h0 h1 h2 h3 h4 h5 h6 g1 r0 r1 r2 r3 r4 r5 r6 HEn HNn HXn HWn;refine (znp HW9.rv ⟨15,nn,⟨#[]⟩,0,0,0,0⟩ (show (15:Int)≠0 by decide) HLn.out).mono ?_;rintro e wA ⟨A2,l2,c2,rfl,hr,hf⟩;have HXA:Hid (BX W.heap.size wA (.slice (some ⟨g,0,none⟩) E.l.length ct) j z d (.slice A1 l1 c1) 0 0):=HX9.kept (HW9.keep hf);have HWA:Hid (WS E z w0 (.slice (some ⟨g,0,none⟩) E.l.length ct) W 2 (.slice B L.length cB) wA (.inl (j,d,L++(M++[⟨15,nn,⟨#[]⟩,0,0,0,0⟩]))) j d A2 l2 c2 0 0):=HW9.call hr hf;clear hr hf HX9 HW9;obtain ⟨k0,k1,k2,k3,k4,k5,k6⟩:=HXA.s.cl;obtain ⟨f0,f1,f2,f3,f4,f5,f6⟩:=HXA.s.fzs;go_wp2_with fail;go_roundw
      case rel=>exact ⟨_,_,_,_,_,_,_,_,HXA.st (.slice (some ⟨g,0,none⟩) E.l.length ct) j z d (.slice A2 l2 c2) 0 0,HWA.st7 (nL _) (by omega) _ _ _ _ _ _ _,.inl ⟨j,M++[⟨15,nn,⟨#[]⟩,0,0,0,0⟩],rfl,HNx.1,HNx.2.1,HNx.2.2 _,HV.out⟩⟩
      case measure =>
       rw [HM.out];refine Nat.lt_of_le_of_lt (Nat.le_of_eq (zdU (HXA.st (.slice (some ⟨g,0,none⟩) E.l.length ct) j z d (.slice A2 l2 c2) 0 0))) ?_;have h1:=HNx.1;have h2:=HNx.2.1;have h3:=HAj.out;omega
     ·rw [hop] at hV2
      have HV:=hO hV2;clear hV2 hop;obtain ⟨k0,k1,k2,k3,k4,k5,k6⟩:=HX6.s.cl;obtain ⟨f0,f1,f2,f3,f4,f5,f6⟩:=HX6.s.fzs;obtain ⟨n0,n1,n2,n3,n4,n5,n6⟩:=zce HN6.out;obtain ⟨e0,e1,e2,e3,e4,e5,e6⟩:=nxF HN6;obtain ⟨wn,hwn⟩:∃w,(((((((w6.setCell ⟨x,0,none⟩ (.int .i64 16)).setCell ⟨x,1,none⟩ (.int .i64 nn)).setCell ⟨x,2,none⟩ (.string ⟨#[]⟩)).setCell ⟨x,3,none⟩ (.int .u64 0)).setCell ⟨x,4,none⟩ (.int .u64 0)).setCell ⟨x,5,none⟩ (.int .u64 0)).setCell ⟨x,6,none⟩ (.int .u64 0))=w:=⟨_,rfl⟩;have HXn:Hid (BX W.heap.size wn (.slice (some ⟨g,0,none⟩) E.l.length ct) a z d (.slice A1 l1 c1) 0 0):=by rw [<-hwn];exact HX6.st7O HO5.2 _ _ _ _ _ _ _
      have HWn:Hid (WS E z w0 (.slice (some ⟨g,0,none⟩) E.l.length ct) W 2 (.slice B L.length cB) wn (.inl (a,d,L++M)) a d A1 l1 c1 0 0):=by rw [<-hwn];exact HW6.st7O (x:=x) HXL.out HO5.1 _ _ _ _ _ _ _
      have HNn:Hid (T.NX wn x ⟨16,nn,⟨#[]⟩,0,0,0,0⟩):=by rw [<-hwn];exact zhj HN6.out ⟨16,nn,⟨#[]⟩,0,0,0,0⟩
      have HEn:=hO hwn;clear hwn;obtain ⟨h0,h1,h2,h3,h4,h5,h6⟩:=HXn.s.cl;have g1:=HXn.s.fz 1;obtain ⟨r0,r1,r2,r3,r4,r5,r6⟩:=zce HNn.out;go_wp2_with (rw [HEn.out])
      have HW9:=hO (HUp _ (HWn.set (nL _) (by omega) 1 (.int .i64 j)));have HX9:=hO (HXn.s1 j);clear HX6 HW6 HN6 HUp tk1 HTk k0 k1 k2 k3 k4 k5 k6 f0 f1 f2 f3 f4 f5 f6 n0 n1 n2 n3 n4 n5 n6 e0 e1 e2 e3 e4 e5 e6 h0 h1 h2 h3 h4 h5 h6 g1 r0 r1 r2 r3 r4 r5 r6 HEn HNn HXn HWn;refine (znp HW9.rv ⟨16,nn,⟨#[]⟩,0,0,0,0⟩ (show (16:Int)≠0 by decide) HLn.out).mono ?_;rintro e wA ⟨A2,l2,c2,rfl,hr,hf⟩;have HXA:Hid (BX W.heap.size wA (.slice (some ⟨g,0,none⟩) E.l.length ct) j z d (.slice A1 l1 c1) 0 0):=HX9.kept (HW9.keep hf);have HWA:Hid (WS E z w0 (.slice (some ⟨g,0,none⟩) E.l.length ct) W 2 (.slice B L.length cB) wA (.inl (j,d,L++(M++[⟨16,nn,⟨#[]⟩,0,0,0,0⟩]))) j d A2 l2 c2 0 0):=HW9.call hr hf;clear hr hf HX9 HW9;obtain ⟨k0,k1,k2,k3,k4,k5,k6⟩:=HXA.s.cl;obtain ⟨f0,f1,f2,f3,f4,f5,f6⟩:=HXA.s.fzs;go_wp2_with fail;go_roundw
      case rel=>exact ⟨_,_,_,_,_,_,_,_,HXA.st (.slice (some ⟨g,0,none⟩) E.l.length ct) j z d (.slice A2 l2 c2) 0 0,HWA.st7 (nL _) (by omega) _ _ _ _ _ _ _,.inl ⟨j,M++[⟨16,nn,⟨#[]⟩,0,0,0,0⟩],rfl,HNx.1,HNx.2.1,HNx.2.2 _,HV.out⟩⟩
      case measure =>
       rw [HM.out];refine Nat.lt_of_le_of_lt (Nat.le_of_eq (zdU (HXA.st (.slice (some ⟨g,0,none⟩) E.l.length ct) j z d (.slice A2 l2 c2) 0 0))) ?_;have h1:=HNx.1;have h2:=HNx.2.1;have h3:=HAj.out;omega
   by_cases h27:kdA E a=27
   ·have hal:a<E.l.length:=za9 (by omega)
    have hV:=g6_27 E a d (by omega) h27;obtain ⟨j,hj⟩:∃j,j=a+1:=⟨_,rfl⟩;have u1:IntKind.i64.wrap ((a:Int)+1)=(j:Int):=by rw [wI];omega
    have HUp:Hid (∀W2,WS E z w0 (.slice (some ⟨g,0,none⟩) E.l.length ct) W 2 (.slice B L.length cB) W2 (.inl (a,d,L++M)) a d A1 l1 c1 0 0->WS E z w0 (.slice (some ⟨g,0,none⟩) E.l.length ct) W 2 (.slice B L.length cB) W2 (.inl (j,d,L++M)) j d A1 l1 c1 0 0):=fun W2 hh=>by
     have:=hh.up (fun s e=>by obtain rfl:=Sum.inl.inj e;exact hal) hz;rw [u1] at this;rw [hj] at this ⊢;exact this
    have HJ:Hid (a<j/\j<=E.l.length/\i<j):=⟨by omega,by omega,by have:=HRa.1;omega⟩;have HRj:Hid (R0=ahd M (bnd (imR E j) fun b ns=>ahd ns (gN E 6 b d))/\(L++M).length<=10027010 * j):=⟨by rw [HRa.2.2.2,hV,hj],by have:=HRa.2.2.1;omega⟩;have HKj:Hid (∀W2,Rv E z w0 (.slice (some ⟨g,0,none⟩) E.l.length ct) W2 (.inl (j,d,L++M)) j d A1 l1 c1 0 0->Cl 39 #[rdV (.slice (some ⟨g,0,none⟩) E.l.length ct) j z d (.slice A1 l1 c1) 0 0,.int .i64 0] W2 (rB W2 (.int .i64 (kdA E j)))):=fun W2 h=>za4 h.2.2.2.2.2 z d 0 0 0 j (by omega) (by omega) hz
    clear hV hj hsf HRa hal HN0;rw [h27];clear h27;obtain ⟨k0,k1,k2,k3,k4,k5,k6⟩:=HX6.s.cl;obtain ⟨f0,f1,f2,f3,f4,f5,f6⟩:=HX6.s.fzs;go_wp2_with fail;have HX7:Hid (BX W.heap.size (w6.setCell ⟨W.heap.size,1,none⟩ (.int .i64 j)) (.slice (some ⟨g,0,none⟩) E.l.length ct) j z d (.slice A1 l1 c1) 0 0):=HX6.s1 j;have HW7:Hid (WS E z w0 (.slice (some ⟨g,0,none⟩) E.l.length ct) W 2 (.slice B L.length cB) (w6.setCell ⟨W.heap.size,1,none⟩ (.int .i64 j)) (.inl (j,d,L++M)) j d A1 l1 c1 0 0):=HUp _ (HW6.set (nL _) (by omega) 1 (.int .i64 j));have HN7:Hid (T.NX (w6.setCell ⟨W.heap.size,1,none⟩ (.int .i64 j)) x (nd0 0)):=HN6.same (bS _ _ _ _ hx1);clear HX6 HW6 HN6 HUp k0 k1 k2 k3 k4 k5 k6 f0 f1 f2 f3 f4 f5 f6;refine (HKj _ HW7.rv).mono ?_;rintro e w8 ⟨rfl,hb⟩;have HX8:=hO (HX7.later hb);have HW8:=hO (HW7.later hb);have HN8:Hid (T.NX w8 x (nd0 0)):=HN7.same (hb.block _ HN7.lt);clear hb HKj HX7 HW7 HN7;by_cases hjl:j<E.l.length
    ·have HTk:Hid (w8.cell? ⟨g,j * 9+1,none⟩=some (.int .i64 (tkA E j).nn)/\w8.cell? ⟨g,j * 9+4,none⟩=some (.string (tkA E j).tx)):=by
      have hd6:DS E w0 w8 (.slice (some ⟨g,0,none⟩) E.l.length ct) j d (.slice A1 l1 c1) (L++M):=HW8.rv.2.2.2.2.2;obtain ⟨A',c',e',hc⟩:=hd6.tk;obtain ⟨g',hA,_,hr⟩:=hc j hjl
      cases e'
      cases hA
      exact ⟨hr.c1,hr.c4⟩
     have z0:(0:Int)<=(j:Int):=by omega
     have z1:(j:Int)<(E.l.length:Int):=by omega
     obtain ⟨m,hm⟩:∃m,m=j+1:=⟨_,rfl⟩;have u2:IntKind.i64.wrap ((j:Int)+1)=(m:Int):=by rw [wI];omega
     have HAj:Hid (a<m):=by have:=HJ.1;show a<m;omega
     have HLn:Hid ((L++M).length+1<=2000000000000):=by have:=HRj.2;have:=HLe.out;show _+1<=_;omega
     have HUp:Hid (∀W2,WS E z w0 (.slice (some ⟨g,0,none⟩) E.l.length ct) W 2 (.slice B L.length cB) W2 (.inl (j,d,L++M)) j d A1 l1 c1 0 0->WS E z w0 (.slice (some ⟨g,0,none⟩) E.l.length ct) W 2 (.slice B L.length cB) W2 (.inl (m,d,L++M)) m d A1 l1 c1 0 0):=fun W2 hh=>by
      have:=hh.up (fun s e=>by obtain rfl:=Sum.inl.inj e;exact hjl) hz;rw [u2] at this;rw [hm] at this ⊢;exact this
     have HNx:Hid (i<m/\m<=E.l.length/\∀n:Nd,(L++(M++[n])).length<=10027010 * m):=⟨by have:=HJ.2.2;omega,by omega,fun n=>by have:=HRj.2;rw [<-List.append_assoc,lA,List.length_singleton];omega⟩;by_cases k2:kdA E j=2
     ·have tk4:=HTk.2
      have HTp:Hid (∀W,Cl 100 #[.string (tkA E j).tx] W (rU W (.bool (T.tmB (tkA E j).tx)))):=fun W=>T.zdA _ (HTx j hjl) W
      have hI:imR E j=if T.tmB (tkA E j).tx then .inl (m,[⟨22,0,(tkA E j).tx,0,0,0,0⟩]) else .inr (j,61):=by unfold imR;rw [iP k2,HTm.out,hm]
      rw [k2];clear HTk HTx hjl k2 hm;generalize (tkA E j).tx=tx at *
      cases htm:T.tmB tx with
      | true =>
       have HV:Hid (R0=ahd (M++[⟨22,0,tx,0,0,0,0⟩]) (gN E 6 m d)):=by
        show R0=_
        rw [HRj.1,hI,htm,iP rfl]
        show ahd M (ahd _ _)=_
        rw [zcs]
       rw [htm] at HTp;clear hI HRj htm;obtain ⟨k0,k1,k2,k3,k4,k5,k6⟩:=HX8.s.cl;obtain ⟨f0,f1,f2,f3,f4,f5,f6⟩:=HX8.s.fzs;obtain ⟨n0,n1,n2,n3,n4,n5,n6⟩:=zce HN8.out;obtain ⟨e0,e1,e2,e3,e4,e5,e6⟩:=nxF HN8;obtain ⟨wn,hwn⟩:∃w,(((((((w8.setCell ⟨x,0,none⟩ (.int .i64 22)).setCell ⟨x,1,none⟩ (.int .i64 0)).setCell ⟨x,2,none⟩ (.string tx)).setCell ⟨x,3,none⟩ (.int .u64 0)).setCell ⟨x,4,none⟩ (.int .u64 0)).setCell ⟨x,5,none⟩ (.int .u64 0)).setCell ⟨x,6,none⟩ (.int .u64 0))=w:=⟨_,rfl⟩;have HXn:Hid (BX W.heap.size wn (.slice (some ⟨g,0,none⟩) E.l.length ct) j z d (.slice A1 l1 c1) 0 0):=by rw [<-hwn];exact HX8.st7O HO5.2 _ _ _ _ _ _ _
       have HWn:Hid (WS E z w0 (.slice (some ⟨g,0,none⟩) E.l.length ct) W 2 (.slice B L.length cB) wn (.inl (j,d,L++M)) j d A1 l1 c1 0 0):=by rw [<-hwn];exact HW8.st7O (x:=x) HXL.out HO5.1 _ _ _ _ _ _ _
       have HNn:Hid (T.NX wn x ⟨22,0,tx,0,0,0,0⟩):=by rw [<-hwn];exact zhj HN8.out ⟨22,0,tx,0,0,0,0⟩
       have HEn:=hO hwn;clear hwn;obtain ⟨h0,h1,h2,h3,h4,h5,h6⟩:=HXn.s.cl;have g1:=HXn.s.fz 1;obtain ⟨r0,r1,r2,r3,r4,r5,r6⟩:=zce HNn.out;go_wp2_with (rw [HEn.out])
       refine (HTp _).mono ?_;rintro e w9 ⟨rfl,rfl⟩;go_wp2_with fail;have HX9:=hO (HXn.s1 m);have HW9:=hO (HUp _ (HWn.set (nL _) (by omega) 1 (.int .i64 m)));clear HX8 HW8 HN8 HUp tk4 HTp k0 k1 k2 k3 k4 k5 k6 f0 f1 f2 f3 f4 f5 f6 n0 n1 n2 n3 n4 n5 n6 e0 e1 e2 e3 e4 e5 e6 h0 h1 h2 h3 h4 h5 h6 g1 r0 r1 r2 r3 r4 r5 r6 HEn HNn HXn HWn;refine (znp HW9.rv ⟨22,0,tx,0,0,0,0⟩ (show (22:Int)≠0 by decide) HLn.out).mono ?_;rintro e wA ⟨A2,l2,c2,rfl,hr,hf⟩;have HXA:Hid (BX W.heap.size wA (.slice (some ⟨g,0,none⟩) E.l.length ct) m z d (.slice A1 l1 c1) 0 0):=HX9.kept (HW9.keep hf);have HWA:Hid (WS E z w0 (.slice (some ⟨g,0,none⟩) E.l.length ct) W 2 (.slice B L.length cB) wA (.inl (m,d,L++(M++[⟨22,0,tx,0,0,0,0⟩]))) m d A2 l2 c2 0 0):=HW9.call hr hf;clear hr hf HX9 HW9;obtain ⟨k0,k1,k2,k3,k4,k5,k6⟩:=HXA.s.cl;obtain ⟨f0,f1,f2,f3,f4,f5,f6⟩:=HXA.s.fzs;go_wp2_with fail;go_roundw
       case rel=>exact ⟨_,_,_,_,_,_,_,_,HXA.st (.slice (some ⟨g,0,none⟩) E.l.length ct) m z d (.slice A2 l2 c2) 0 0,HWA.st7 (nL _) (by omega) _ _ _ _ _ _ _,.inl ⟨m,M++[⟨22,0,tx,0,0,0,0⟩],rfl,HNx.1,HNx.2.1,HNx.2.2 _,HV.out⟩⟩
       case measure =>
        rw [HM.out];refine Nat.lt_of_le_of_lt (Nat.le_of_eq (zdU (HXA.st (.slice (some ⟨g,0,none⟩) E.l.length ct) m z d (.slice A2 l2 c2) 0 0))) ?_;have h1:=HNx.1;have h2:=HNx.2.1;have h3:=HAj.out;omega
      | false =>
       have HV:Hid (R0=.inr (j,61)):=by
        show R0=_
        rw [HRj.1,hI,htm];rfl
       rw [htm] at HTp;clear hI HRj htm HNx HAj HLn HUp u2;obtain ⟨k0,k1,k2,k3,k4,k5,k6⟩:=HX8.s.cl;obtain ⟨f0,f1,f2,f3,f4,f5,f6⟩:=HX8.s.fzs;obtain ⟨n0,n1,n2,n3,n4,n5,n6⟩:=zce HN8.out;obtain ⟨e0,e1,e2,e3,e4,e5,e6⟩:=nxF HN8;obtain ⟨wn,hwn⟩:∃w,(((((((w8.setCell ⟨x,0,none⟩ (.int .i64 22)).setCell ⟨x,1,none⟩ (.int .i64 0)).setCell ⟨x,2,none⟩ (.string tx)).setCell ⟨x,3,none⟩ (.int .u64 0)).setCell ⟨x,4,none⟩ (.int .u64 0)).setCell ⟨x,5,none⟩ (.int .u64 0)).setCell ⟨x,6,none⟩ (.int .u64 0))=w:=⟨_,rfl⟩;have HXn:Hid (BX W.heap.size wn (.slice (some ⟨g,0,none⟩) E.l.length ct) j z d (.slice A1 l1 c1) 0 0):=by rw [<-hwn];exact HX8.st7O HO5.2 _ _ _ _ _ _ _
       have HWn:Hid (WS E z w0 (.slice (some ⟨g,0,none⟩) E.l.length ct) W 2 (.slice B L.length cB) wn (.inl (j,d,L++M)) j d A1 l1 c1 0 0):=by rw [<-hwn];exact HW8.st7O (x:=x) HXL.out HO5.1 _ _ _ _ _ _ _
       have HNn:Hid (T.NX wn x ⟨22,0,tx,0,0,0,0⟩):=by rw [<-hwn];exact zhj HN8.out ⟨22,0,tx,0,0,0,0⟩
       have HEn:=hO hwn;clear hwn;obtain ⟨h0,h1,h2,h3,h4,h5,h6⟩:=HXn.s.cl;have g1:=HXn.s.fz 1;obtain ⟨r0,r1,r2,r3,r4,r5,r6⟩:=zce HNn.out;go_wp2_with (rw [HEn.out])
       refine (HTp _).mono ?_;rintro e w9 ⟨rfl,rfl⟩;go_wp2_with fail;clear HX8 HW8 HN8 tk4 HTp k0 k1 k2 k3 k4 k5 k6 f0 f1 f2 f3 f4 f5 f6 n0 n1 n2 n3 n4 n5 n6 e0 e1 e2 e3 e4 e5 e6 h0 h1 h2 h3 h4 h5 h6 g1 r0 r1 r2 r3 r4 r5 r6 HEn HNn;refine (zbl HWn.rv.2.2.2.2.2 z d 0 61).mono ?_;rintro e wA ⟨rfl,hb⟩;have HXA:=hO (HXn.later hb);have HWA:=hO (HWn.later hb);clear hb HXn HWn;obtain ⟨b0,b1,b2,b3,b4,b5,b6⟩:=HXA.r.cl;obtain ⟨f0,f1,f2,f3,f4,f5,f6⟩:=HXA.r.fzs;go_wp2_with fail;refine zaV (s:=2) rfl rfl rfl (zaH HXA.r _ _ _ _ _ _ _) ?_;have hfin:=HWA.st7 (k:=W.heap.size+1) (by omega) (by omega) (.slice (some ⟨g,0,none⟩) E.l.length ct) (.int .i64 j) (.int .i64 z) (.int .i64 d) (.slice A1 l1 c1) (.int .i64 (plA E z j)) (.int .i64 61);rw [HC0.out,HV.out];exact ⟨_,_,_,_,_,_,_,rfl,⟨rfl,rfl,by show (61:Int)≠0;decide,hfin.bl⟩,hfin.fd.weak⟩
     by_cases k4:kdA E j=4
     ·have tk1:=HTk.1
      have hI:imR E j=if 50<(tkA E j).nn then .inr (j,1) else .inl (m,[⟨23,(tkA E j).nn,⟨#[]⟩,0,0,0,0⟩]):=by unfold imR;rw [iN k2,iP k4,hm]
      rw [k4];clear HTk HTx hjl k2 k4 hm HTm;generalize (tkA E j).nn=nn at *;by_cases h50:50<nn
      ·have HV:Hid (R0=.inr (j,1)):=by
        show R0=_
        rw [HRj.1,hI,iP h50];rfl
       clear hI HRj HNx HAj HLn HUp u2;obtain ⟨k0,k1,k2,k3,k4,k5,k6⟩:=HX8.s.cl;obtain ⟨f0,f1,f2,f3,f4,f5,f6⟩:=HX8.s.fzs;obtain ⟨n0,n1,n2,n3,n4,n5,n6⟩:=zce HN8.out;obtain ⟨e0,e1,e2,e3,e4,e5,e6⟩:=nxF HN8;obtain ⟨wn,hwn⟩:∃w,(((((((w8.setCell ⟨x,0,none⟩ (.int .i64 23)).setCell ⟨x,1,none⟩ (.int .i64 nn)).setCell ⟨x,2,none⟩ (.string ⟨#[]⟩)).setCell ⟨x,3,none⟩ (.int .u64 0)).setCell ⟨x,4,none⟩ (.int .u64 0)).setCell ⟨x,5,none⟩ (.int .u64 0)).setCell ⟨x,6,none⟩ (.int .u64 0))=w:=⟨_,rfl⟩;have HXn:Hid (BX W.heap.size wn (.slice (some ⟨g,0,none⟩) E.l.length ct) j z d (.slice A1 l1 c1) 0 0):=by rw [<-hwn];exact HX8.st7O HO5.2 _ _ _ _ _ _ _
       have HWn:Hid (WS E z w0 (.slice (some ⟨g,0,none⟩) E.l.length ct) W 2 (.slice B L.length cB) wn (.inl (j,d,L++M)) j d A1 l1 c1 0 0):=by rw [<-hwn];exact HW8.st7O (x:=x) HXL.out HO5.1 _ _ _ _ _ _ _
       have HNn:Hid (T.NX wn x ⟨23,nn,⟨#[]⟩,0,0,0,0⟩):=by rw [<-hwn];exact zhj HN8.out ⟨23,nn,⟨#[]⟩,0,0,0,0⟩
       have HEn:=hO hwn;clear hwn;obtain ⟨h0,h1,h2,h3,h4,h5,h6⟩:=HXn.s.cl;have g1:=HXn.s.fz 1;obtain ⟨r0,r1,r2,r3,r4,r5,r6⟩:=zce HNn.out;go_wp2_with (rw [HEn.out])
       clear HX8 HW8 HN8 tk1 k0 k1 k2 k3 k4 k5 k6 f0 f1 f2 f3 f4 f5 f6 n0 n1 n2 n3 n4 n5 n6 e0 e1 e2 e3 e4 e5 e6 h0 h1 h2 h3 h4 h5 h6 g1 r0 r1 r2 r3 r4 r5 r6 HEn HNn;refine (zbl HWn.rv.2.2.2.2.2 z d 0 1).mono ?_;rintro e wA ⟨rfl,hb⟩;have HXA:=hO (HXn.later hb);have HWA:=hO (HWn.later hb);clear hb HXn HWn;obtain ⟨b0,b1,b2,b3,b4,b5,b6⟩:=HXA.r.cl;obtain ⟨f0,f1,f2,f3,f4,f5,f6⟩:=HXA.r.fzs;go_wp2_with fail;refine zaV (s:=2) rfl rfl rfl (zaH HXA.r _ _ _ _ _ _ _) ?_;have hfin:=HWA.st7 (k:=W.heap.size+1) (by omega) (by omega) (.slice (some ⟨g,0,none⟩) E.l.length ct) (.int .i64 j) (.int .i64 z) (.int .i64 d) (.slice A1 l1 c1) (.int .i64 (plA E z j)) (.int .i64 1);rw [HC0.out,HV.out];exact ⟨_,_,_,_,_,_,_,rfl,⟨rfl,rfl,by show (1:Int)≠0;decide,hfin.bl⟩,hfin.fd.weak⟩
      ·have HV:Hid (R0=ahd (M++[⟨23,nn,⟨#[]⟩,0,0,0,0⟩]) (gN E 6 m d)):=by
        show R0=_
        rw [HRj.1,hI,iN h50]
        show ahd M (ahd _ _)=_
        rw [zcs]
       clear hI HRj;obtain ⟨k0,k1,k2,k3,k4,k5,k6⟩:=HX8.s.cl;obtain ⟨f0,f1,f2,f3,f4,f5,f6⟩:=HX8.s.fzs;obtain ⟨n0,n1,n2,n3,n4,n5,n6⟩:=zce HN8.out;obtain ⟨e0,e1,e2,e3,e4,e5,e6⟩:=nxF HN8;obtain ⟨wn,hwn⟩:∃w,(((((((w8.setCell ⟨x,0,none⟩ (.int .i64 23)).setCell ⟨x,1,none⟩ (.int .i64 nn)).setCell ⟨x,2,none⟩ (.string ⟨#[]⟩)).setCell ⟨x,3,none⟩ (.int .u64 0)).setCell ⟨x,4,none⟩ (.int .u64 0)).setCell ⟨x,5,none⟩ (.int .u64 0)).setCell ⟨x,6,none⟩ (.int .u64 0))=w:=⟨_,rfl⟩;have HXn:Hid (BX W.heap.size wn (.slice (some ⟨g,0,none⟩) E.l.length ct) j z d (.slice A1 l1 c1) 0 0):=by rw [<-hwn];exact HX8.st7O HO5.2 _ _ _ _ _ _ _
       have HWn:Hid (WS E z w0 (.slice (some ⟨g,0,none⟩) E.l.length ct) W 2 (.slice B L.length cB) wn (.inl (j,d,L++M)) j d A1 l1 c1 0 0):=by rw [<-hwn];exact HW8.st7O (x:=x) HXL.out HO5.1 _ _ _ _ _ _ _
       have HNn:Hid (T.NX wn x ⟨23,nn,⟨#[]⟩,0,0,0,0⟩):=by rw [<-hwn];exact zhj HN8.out ⟨23,nn,⟨#[]⟩,0,0,0,0⟩
       have HEn:=hO hwn;clear hwn;obtain ⟨h0,h1,h2,h3,h4,h5,h6⟩:=HXn.s.cl;have g1:=HXn.s.fz 1;obtain ⟨r0,r1,r2,r3,r4,r5,r6⟩:=zce HNn.out;go_wp2_with (rw [HEn.out])
       have HX9:=hO (HXn.s1 m);have HW9:=hO (HUp _ (HWn.set (nL _) (by omega) 1 (.int .i64 m)));clear HX8 HW8 HN8 HUp tk1 k0 k1 k2 k3 k4 k5 k6 f0 f1 f2 f3 f4 f5 f6 n0 n1 n2 n3 n4 n5 n6 e0 e1 e2 e3 e4 e5 e6 h0 h1 h2 h3 h4 h5 h6 g1 r0 r1 r2 r3 r4 r5 r6 HEn HNn HXn HWn;refine (znp HW9.rv ⟨23,nn,⟨#[]⟩,0,0,0,0⟩ (show (23:Int)≠0 by decide) HLn.out).mono ?_;rintro e wA ⟨A2,l2,c2,rfl,hr,hf⟩;have HXA:Hid (BX W.heap.size wA (.slice (some ⟨g,0,none⟩) E.l.length ct) m z d (.slice A1 l1 c1) 0 0):=HX9.kept (HW9.keep hf);have HWA:Hid (WS E z w0 (.slice (some ⟨g,0,none⟩) E.l.length ct) W 2 (.slice B L.length cB) wA (.inl (m,d,L++(M++[⟨23,nn,⟨#[]⟩,0,0,0,0⟩]))) m d A2 l2 c2 0 0):=HW9.call hr hf;clear hr hf HX9 HW9;obtain ⟨k0,k1,k2,k3,k4,k5,k6⟩:=HXA.s.cl;obtain ⟨f0,f1,f2,f3,f4,f5,f6⟩:=HXA.s.fzs;go_wp2_with fail;go_roundw
       case rel=>exact ⟨_,_,_,_,_,_,_,_,HXA.st (.slice (some ⟨g,0,none⟩) E.l.length ct) m z d (.slice A2 l2 c2) 0 0,HWA.st7 (nL _) (by omega) _ _ _ _ _ _ _,.inl ⟨m,M++[⟨23,nn,⟨#[]⟩,0,0,0,0⟩],rfl,HNx.1,HNx.2.1,HNx.2.2 _,HV.out⟩⟩
       case measure =>
        rw [HM.out];refine Nat.lt_of_le_of_lt (Nat.le_of_eq (zdU (HXA.st (.slice (some ⟨g,0,none⟩) E.l.length ct) m z d (.slice A2 l2 c2) 0 0))) ?_;have h1:=HNx.1;have h2:=HNx.2.1;have h3:=HAj.out;omega
     have HV:Hid (R0=.inr (j,60)):=by
      show R0=_
      rw [HRj.1];unfold imR;rw [iN k2,iN k4];rfl
     have t2:(kdA E j==2)=false:=bF k2;have t4:(kdA E j==4)=false:=bF k4;generalize kdA E j=kk at *;clear k2 k4 HRj HTk HTx HTm HNx HAj HLn HUp u2;obtain ⟨k0,k1,k2,k3,k4,k5,k6⟩:=HX8.s.cl;obtain ⟨f0,f1,f2,f3,f4,f5,f6⟩:=HX8.s.fzs;go_wp2_with fail;clear HN8 k0 k1 k2 k3 k4 k5 k6 f0 f1 f2 f3 f4 f5 f6;refine (zbl HW8.rv.2.2.2.2.2 z d 0 60).mono ?_;rintro e wA ⟨rfl,hb⟩;have HXA:=hO (HX8.later hb);have HWA:=hO (HW8.later hb);clear hb HX8 HW8;obtain ⟨b0,b1,b2,b3,b4,b5,b6⟩:=HXA.r.cl;obtain ⟨f0,f1,f2,f3,f4,f5,f6⟩:=HXA.r.fzs;go_wp2_with fail;refine zaV (s:=2) rfl rfl rfl (zaH HXA.r _ _ _ _ _ _ _) ?_;have hfin:=HWA.st7 (k:=W.heap.size+1) (by omega) (by omega) (.slice (some ⟨g,0,none⟩) E.l.length ct) (.int .i64 j) (.int .i64 z) (.int .i64 d) (.slice A1 l1 c1) (.int .i64 (plA E z j)) (.int .i64 60);rw [HC0.out,HV.out];exact ⟨_,_,_,_,_,_,_,rfl,⟨rfl,rfl,by show (60:Int)≠0;decide,hfin.bl⟩,hfin.fd.weak⟩
    ·have h0:kdA E j=0:=znm hjl
     have HV:Hid (R0=.inr (j,60)):=by
      show R0=_
      rw [HRj.1];unfold imR;rw [h0];rfl
     rw [h0];clear h0 HRj HTx HTm hjl;obtain ⟨k0,k1,k2,k3,k4,k5,k6⟩:=HX8.s.cl;obtain ⟨f0,f1,f2,f3,f4,f5,f6⟩:=HX8.s.fzs;go_wp2_with fail;clear HN8 k0 k1 k2 k3 k4 k5 k6 f0 f1 f2 f3 f4 f5 f6;refine (zbl HW8.rv.2.2.2.2.2 z d 0 60).mono ?_;rintro e wA ⟨rfl,hb⟩;have HXA:=hO (HX8.later hb);have HWA:=hO (HW8.later hb);clear hb HX8 HW8;obtain ⟨b0,b1,b2,b3,b4,b5,b6⟩:=HXA.r.cl;obtain ⟨f0,f1,f2,f3,f4,f5,f6⟩:=HXA.r.fzs;go_wp2_with fail;refine zaV (s:=2) rfl rfl rfl (zaH HXA.r _ _ _ _ _ _ _) ?_;have hfin:=HWA.st7 (k:=W.heap.size+1) (by omega) (by omega) (.slice (some ⟨g,0,none⟩) E.l.length ct) (.int .i64 j) (.int .i64 z) (.int .i64 d) (.slice A1 l1 c1) (.int .i64 (plA E z j)) (.int .i64 60);rw [HC0.out,HV.out];exact ⟨_,_,_,_,_,_,_,rfl,⟨rfl,rfl,by show (60:Int)≠0;decide,hfin.bl⟩,hfin.fd.weak⟩
   have HV:Hid (R0=.inl (a,M)):=by
    show R0=_
    rw [HRa.2.2.2,g6_no E a d HRa.2.1 (Bool.eq_false_iff.2 hsf) h27]
    show Sum.inl (a,M++[])=_
    rw [List.append_nil]
   have hsf2:=Bool.eq_false_iff.2 hsf;unfold sfB at hsf2;simp only [Bool.or_eq_false_iff] at hsf2;obtain ⟨⟨⟨⟨⟨v1,v2⟩,v3⟩,v4⟩,v5⟩,v6⟩:=hsf2;have v7:(kdA E a==27)=false:=bF h27;generalize kdA E a=kk at *;clear hsf h27 HRa HTx HTm HN0 HN6;obtain ⟨k0,k1,k2,k3,k4,k5,k6⟩:=HX6.s.cl;obtain ⟨f0,f1,f2,f3,f4,f5,f6⟩:=HX6.r.fzs;obtain ⟨b0,b1,b2,b3,b4,b5,b6⟩:=HX6.r.cl;go_wp2_with fail;refine zaV (s:=2) rfl rfl rfl (zaH HX6.r _ _ _ _ _ _ _) ?_;rw [HC0.out,HV.out];exact (HW6.st7 (by omega) (by omega) _ _ _ _ _ _ _).pu _
  ·have HX4:=hO HR.1
   have HW4:=hO HR.2.1;have HV:Hid (R0=.inr q):=hR;have h9:q3=q.2:=HR.2.1.rv.1;have HOk:Hid (∀W,Cl 15 #[rdV (.slice (some ⟨g,0,none⟩) E.l.length ct) i3 z d3 (.slice A1 l1 c1) p3 q3] W (rB W (.bool false))):=fun W=>by
    have:=zaP (some ⟨g,0,none⟩) E.l.length ct i3 z d3 A1 l1 c1 p3 q3 W;rw [show (q3==0)=false from by rw [h9];simpa using hq] at this;exact this
   clear HR hq hR h9;obtain ⟨k0,k1,k2,k3,k4,k5,k6⟩:=HX4.s.cl;go_wp2_with fail;refine (HOk _).mono ?_;rintro e w5 ⟨rfl,hb⟩;have HX5:=hO (HX4.later hb);have HW5:=hO (HW4.later hb);clear hb HOk HX4 HW4 k0 k1 k2 k3 k4 k5 k6;obtain ⟨k0,k1,k2,k3,k4,k5,k6⟩:=HX5.s.cl;obtain ⟨f0,f1,f2,f3,f4,f5,f6⟩:=HX5.r.fzs;obtain ⟨b0,b1,b2,b3,b4,b5,b6⟩:=HX5.r.cl;go_wp2_with fail;refine zaV (s:=2) rfl rfl rfl (zaH HX5.r _ _ _ _ _ _ _) ?_;rw [HC0.out,HV.out];exact (HW5.st7 (by omega) (by omega) _ _ _ _ _ _ _).pu _
theorem allD {E:PE} (hE:OkE E) {z:Nat} {w0:World} {tv:Value}:∀(n i:Nat),E.l.length - i<=n->i<=E.l.length->∀d,Cd 29 E z w0 tv i d (gN E 0 i d)/\Cd 73 E z w0 tv i d (gN E 4 i d):=by
 intro n
 induction n with
 | zero =>
  intro i h1 h2 d;have hP:∀a,i<=a->a<=E.l.length->Cd 73 E z w0 tv a d (gN E 4 a d):=fun a ha1 ha2=>zhX hE (fun q=>by omega) (fun hb=>by have:=zfh hb;omega)
  exact ⟨zhV hE fun a ha1 ha2=>zhW hE fun a2 q1 q2=>hP a2 (by omega) q2,hP i (nL _) h2⟩
 | succ n ih =>
  intro i h1 h2 d;have hP:∀a,i<=a->a<=E.l.length->Cd 73 E z w0 tv a d (gN E 4 a d):=fun a ha1 ha2=>zhX hE (fun q=>(ih (a+1) (by omega) (by omega) (d+1)).2) fun hb=>zmH hE hb (zkU hE hb (ih (a+1) (by omega) (by have:=zfh hb;omega) (d+1)).1)
  exact ⟨zhV hE fun a ha1 ha2=>zhW hE fun a2 q1 q2=>hP a2 (by omega) q2,hP i (nL _) h2⟩
theorem zdB {E:PE} (hE:OkE E) {z:Nat} {w0:World} {tv:Value} {i d:Nat} (hi:i<=E.l.length):Cd 29 E z w0 tv i d (gN E 0 i d):=(allD hE _ i (nL _) hi d).1
structure PX (W:World) (k:Nat) (a b c:Value):Prop where
 heap:W.heap[k]?=some (.cells #[a,b,c] 59 (0,0))
theorem PX.lt {W:World} {k:Nat} {a b c:Value} (h:PX W k a b c):k<W.heap.size:=(Array.getElem?_eq_some_iff.1 h.heap).1
theorem PX.same {W W':World} {k:Nat} {a b c:Value} (h:PX W k a b c) (hb:W'.heap[k]?=W.heap[k]?):PX W' k a b c:=⟨hb.trans h.heap⟩
theorem PX.cl {W:World} {k:Nat} {a b c:Value} (h:PX W k a b c):W.cell? ⟨k,0,none⟩=some a/\W.cell? ⟨k,1,none⟩=some b/\W.cell? ⟨k,2,none⟩=some c:=by
 have key:∀(j:Nat) u,(#[a,b,c]:Array Value)[j]?=some u->W.cell? ⟨k,j,none⟩=some u:=fun j u hu=>by
  rw [cell_of_row W k j _ 59 (0,0) h.heap];exact hu
 exact ⟨key 0 _ rfl,key 1 _ rfl,key 2 _ rfl⟩
theorem PX.fz {W:World} {k:Nat} {a b c:Value} (h:PX W k a b c) (j:Nat):W.frozen? ⟨k,j,none⟩=false:=frozen_of_row W k j _ 59 h.heap
abbrev st3 (W:World) (k:Nat) (a b c:Value):World:=((W.setCell ⟨k,0,none⟩ a).setCell ⟨k,1,none⟩ b).setCell ⟨k,2,none⟩ c
theorem znq {W:World} {k:Nat} {a0 b0 c0:Value} (h:PX W k a0 b0 c0) (a b c:Value):PX (st3 W k a b c) k a b c:=by
 have h0:=heap_setCell_same _ k 0 _ 59 a h.heap;have h1:=heap_setCell_same _ k 1 _ 59 b h0;have h2:=heap_setCell_same _ k 2 _ 59 c h1;refine ⟨?_⟩;rw [h2];simp
theorem zdC {W:World} {k j:Nat} (a b c:Value) (h:j≠k):(st3 W k a b c).heap[j]?=W.heap[j]? :=
 (bS _ _ _ _ h).trans ((bS _ _ _ _ h).trans (bS _ _ _ _ h))
theorem zkV {B:Nat} {w W:World} {k:Nat} (h:Below B w W) (hk:B<=k) (a b c:Value):Below B w (st3 W k a b c):=((h.setCell (p:=⟨k,0,none⟩) hk _).setCell (p:=⟨k,1,none⟩) hk _).setCell (p:=⟨k,2,none⟩) hk _
theorem PX.ne {W:World} {k B e s n:Nat} {u a b c:Value} {xs:List Value} (h:PX W k a b c) (ho:W.ownsRow B e s u n xs) (he:e≠59) {j:Nat} (hj:u.ownBlock=some j):j≠k:=fun q=>by
 subst q;obtain ⟨cs,hc⟩:=zd0 ho hj;rw [h.heap] at hc
 injection hc with h4
 injection h4 with _ h5
 exact he h5.symm
theorem PX.neb {W:World} {k b:Nat} {tv v x y u:Value} {i d:Nat} (h:PX W k x y u) (hx:RX W b tv i d v):b≠k:=fun q=>by
 subst q;have:=hx.heap;rw [h.heap] at this
 injection this with h4
 injection h4 with _ h5
 cases h5
theorem RS.st3 {E:PE} {z:Nat} {w0 W:World} {b:Nat} {tv:Value} {i d:Nat} {v:Value} {L:List Nd} {k:Nat} {a0 b0 c0:Value} (h:RS E z w0 W b tv i d v L) (hp:PX W k a0 b0 c0) (hk:w0.heap.size<=k) (x y u:Value):RS E z w0 (st3 W k x y u) b tv i d v L :=
 ⟨zkV h.bl hk x y u,h.lo,h.x.same (zdC x y u (hp.neb h.x)),zaj h.t fun j hj=>zdC x y u (hp.ne h.t (by decide) hj),zaj h.o fun j hj=>zdC x y u (hp.ne h.o (by decide) hj),h.hi,h.hd⟩
theorem Fr.st3 {W W':World} {b k:Nat} {v v':Value} (h:Fr W W' b v v') (hk:W.heap.size<=k) (x y u:Value):Fr W (st3 W' k x y u) b v v' :=
 ⟨Nat.le_trans h.size (by simp [World.setCell]),fun j hj hb hv=>(zdC x y u (by omega)).trans (h.block j hj hb hv),h.own⟩
theorem znr {fn:Func} {R:Ending->World->Prop} {act:Act} {W:World} {k:Nat} {a b c:Value} (hF:fn.results=#[.cell 2 59]) (hd:act.defers=[]) (h2:act.tmps.getD 2 undef=.pointer (some ⟨k,0,none⟩)) (hT:PX W k a b c) (hR:R (.returned (.agg #[a,b,c])) W):bodyPost Tryz.prog fn R .ret act W:=by
 obtain ⟨c0,c1,c2⟩:=hT.cl;refine bodyPost_ret (v:=.agg #[a,b,c]) ?_ hd hR;simp only [Array.getD_eq_getD_getElem?] at h2;simp [results,hF,go_sem,h2,c0,c1,c2]
theorem zpc {E:PE} (hE:OkE E) {z:Nat} {w0:World} (hv:R.VB w0) {b:Nat} {tv:Value} {W:World} {v:Value} {L:List Nd} (h:RS E z w0 W b tv 0 0 v L) (q:Nat×Int) (hq:exN E 0=.inr q):Cl 23 #[.pointer (some ⟨b,0,none⟩)] W fun e W'=>e=pnc (plA E z q.1) q.2/\bW w0 W':=by
 obtain ⟨t,ht,hk,hpl,_⟩:=zav E z h.hi;have HH:Hid (∀W,RS E z w0 W b tv 0 0 v L->Cl 33 #[.pointer (some ⟨b,0,none⟩)] W (rB W (.agg #[.int .i64 t.kd,.int .i64 t.nn,.int .i64 (plA E z 0),.int .i64 t.en,.string t.tx,.int .u64 t.s0,.int .u64 t.s1,.int .u64 t.s2,.int .u64 t.s3]))):=fun W h=>by
  have:=zay h t ht;rw [hpl] at this;exact this
 have fl2:=fld2;have fl0:=ziR;have HP:Hid (PX (W.alloc (.cells #[.int .i64 0,.string ⟨#[]⟩,.slice none 0 0] 59)) W.heap.size (.int .i64 0) (.string ⟨#[]⟩) (.slice none 0 0)):=⟨heap_alloc_new W _⟩;have H:Hid (RS E z w0 (W.alloc (.cells #[.int .i64 0,.string ⟨#[]⟩,.slice none 0 0] 59)) b tv 0 0 v L):=h.later (zaa _ _);have HF:Hid (Fr W (W.alloc (.cells #[.int .i64 0,.string ⟨#[]⟩,.slice none 0 0] 59)) b (.slice none 0 0) (.slice none 0 0)):=Fr.below b _ (zaa _ _);have hnb:=h.x.lt;have hw0:=h.bl.size;have HBo:Hid (∀W,RS E z w0 W b tv 0 0 v L->Cl 37 #[.pointer (some ⟨b,0,none⟩)] W fun e W'=>e=pnc (plA E z q.1) q.2/\bW w0 W'):=fun W h=>zkD hE hv h q hq
 clear h ht hk hpl hE hv hq;generalize plA E z 0=p0 at *;go_enter Tryz.func23,Tryz.ntmps23;go_wp2_with fail;generalize W.alloc (.cells #[.int .i64 0,.string ⟨#[]⟩,.slice none 0 0] 59)=w1 at *;refine (HH _ H.out).mono ?_;rintro e w2 ⟨rfl,hb⟩;have H2:=hO (H.later hb);have HF2:Hid (Fr W w2 b (.slice none 0 0) (.slice none 0 0)):=HF.trans (Fr.below b _ hb);have HP2:=hO (HP.same (hb.block _ HP.lt));clear hb HH H HF HP;go_wp2_with fail;refine (HBo _ H2.out).mono ?_;rintro e w3 ⟨rfl,hb⟩;exact zah rfl ⟨rfl,hb⟩
theorem zpd {E:PE} (hE:OkE E) {z:Nat} {w0:World} (hv:R.VB w0) {b:Nat} {tv:Value} {W:World} {v:Value} {L:List Nd} (h:RS E z w0 W b tv 0 0 v L) (a:Nat) (ns:List Nd) (hq:exN E 0=.inl (a,ns)) (hz:¬kdA E a=0):Cl 23 #[.pointer (some ⟨b,0,none⟩)] W fun e W'=>e=pnc (plA E z a) 60/\bW w0 W':=by
 obtain ⟨t,ht,hk,hpl,_⟩:=zav E z h.hi;have HH:Hid (∀W,RS E z w0 W b tv 0 0 v L->Cl 33 #[.pointer (some ⟨b,0,none⟩)] W (rB W (.agg #[.int .i64 t.kd,.int .i64 t.nn,.int .i64 (plA E z 0),.int .i64 t.en,.string t.tx,.int .u64 t.s0,.int .u64 t.s1,.int .u64 t.s2,.int .u64 t.s3]))):=fun W h=>by
  have:=zay h t ht;rw [hpl] at this;exact this
 have fl2:=fld2;have fl0:=ziR;have HP:Hid (PX (W.alloc (.cells #[.int .i64 0,.string ⟨#[]⟩,.slice none 0 0] 59)) W.heap.size (.int .i64 0) (.string ⟨#[]⟩) (.slice none 0 0)):=⟨heap_alloc_new W _⟩;have H:Hid (RS E z w0 (W.alloc (.cells #[.int .i64 0,.string ⟨#[]⟩,.slice none 0 0] 59)) b tv 0 0 v L):=h.later (zaa _ _);have HF:Hid (Fr W (W.alloc (.cells #[.int .i64 0,.string ⟨#[]⟩,.slice none 0 0] 59)) b (.slice none 0 0) (.slice none 0 0)):=Fr.below b _ (zaa _ _);have hnb:=h.x.lt;have hw0:=h.bl.size;have HBo:Hid (∀W,RS E z w0 W b tv 0 0 v L->Cl 37 #[.pointer (some ⟨b,0,none⟩)] W fun e W'=>∃v',e=.returned v'/\RS E z w0 W' b tv a 0 v' ns/\Fr W W' b (.slice none 0 0) v'):=fun W h=>zhd hE hv h a ns hq
 have hal:a<=E.l.length:=(zes (Nat.zero_le _) hq).2;obtain ⟨t2,ht2,hk2,hpl2,_⟩:=zav E z hal;have HH2:Hid (∀W v,RS E z w0 W b tv a 0 v ns->Cl 33 #[.pointer (some ⟨b,0,none⟩)] W (rB W (.agg #[.int .i64 t2.kd,.int .i64 t2.nn,.int .i64 t2.fr,.int .i64 t2.en,.string t2.tx,.int .u64 t2.s0,.int .u64 t2.s1,.int .u64 t2.s2,.int .u64 t2.s3]))):=fun W v h=>zay h t2 ht2
 have HRf:Hid (∀W v,RS E z w0 W b tv a 0 v ns->Cl 38 #[.pointer (some ⟨b,0,none⟩),.int .i64 60] W fun e W'=>e=pnc (plA E z a) 60/\bW W W'):=fun W v h=>zbJ h 60
 have t1:(t2.kd != 0)=true:=by rw [hk2];simpa using hz
 clear h ht hk hpl hE hv hq ht2 hk2 hpl2 hz;generalize plA E z 0=p0 at *;go_enter Tryz.func23,Tryz.ntmps23;go_wp2_with fail;generalize W.alloc (.cells #[.int .i64 0,.string ⟨#[]⟩,.slice none 0 0] 59)=w1 at *;refine (HH _ H.out).mono ?_;rintro e w2 ⟨rfl,hb⟩;have H2:=hO (H.later hb);have HF2:Hid (Fr W w2 b (.slice none 0 0) (.slice none 0 0)):=HF.trans (Fr.below b _ hb);have HP2:=hO (HP.same (hb.block _ HP.lt));clear hb HH H HF HP;go_wp2_with fail;refine (HBo _ H2.out).mono ?_;rintro e w3 ⟨v3,rfl,h3,hf3⟩;have H3:=hO h3;have HF3:Hid (Fr W w3 b (.slice none 0 0) v3):=HF2.trans hf3;have HP3:=hO (HP2.same (hf3.block _ HP2.lt (by omega) (by intro q;cases q)));clear h3 hf3 H2 HF2 HP2 HBo;go_wp2_with fail;refine (HH2 _ _ H3.out).mono ?_;rintro e w4 ⟨rfl,hb⟩;have H4:=hO (H3.later hb);have HF4:Hid (Fr W w4 b (.slice none 0 0) v3):=HF3.trans (Fr.below b _ hb);have HP4:=hO (HP3.same (hb.block _ HP3.lt));clear hb H3 HF3 HP3 HH2;obtain ⟨c0,c1,c2⟩:=HP4.cl;have f0:=HP4.fz 0;have f1':=HP4.fz 1;have f2':=HP4.fz 2;go_wp2_with fail;refine (HRf _ _ H4.out).mono ?_;rintro e w5 ⟨rfl,hb⟩;exact zah rfl ⟨rfl,H4.bl.trans (hb.mono H4.bl.size)⟩
theorem zmI {E:PE} (hE:OkE E) {z:Nat} {w0:World} (hv:R.VB w0) {b:Nat} {tv:Value} {W:World} {v:Value} {L:List Nd} (h:RS E z w0 W b tv 0 0 v L) (a:Nat) (ns:List Nd) (hq:exN E 0=.inl (a,ns)) (hz:kdA E a=0):Cl 23 #[.pointer (some ⟨b,0,none⟩)] W fun e W'=>∃v',e=.returned (.agg #[.int .i64 (plA E z 0),.string ⟨#[]⟩,v'])/\RS E z w0 W' b tv a 0 v' ns/\Fr W W' b (.slice none 0 0) v':=by
 obtain ⟨t,ht,hk,hpl,_⟩:=zav E z h.hi;have HH:Hid (∀W,RS E z w0 W b tv 0 0 v L->Cl 33 #[.pointer (some ⟨b,0,none⟩)] W (rB W (.agg #[.int .i64 t.kd,.int .i64 t.nn,.int .i64 (plA E z 0),.int .i64 t.en,.string t.tx,.int .u64 t.s0,.int .u64 t.s1,.int .u64 t.s2,.int .u64 t.s3]))):=fun W h=>by
  have:=zay h t ht;rw [hpl] at this;exact this
 have fl2:=fld2;have fl0:=ziR;have HP:Hid (PX (W.alloc (.cells #[.int .i64 0,.string ⟨#[]⟩,.slice none 0 0] 59)) W.heap.size (.int .i64 0) (.string ⟨#[]⟩) (.slice none 0 0)):=⟨heap_alloc_new W _⟩;have H:Hid (RS E z w0 (W.alloc (.cells #[.int .i64 0,.string ⟨#[]⟩,.slice none 0 0] 59)) b tv 0 0 v L):=h.later (zaa _ _);have HF:Hid (Fr W (W.alloc (.cells #[.int .i64 0,.string ⟨#[]⟩,.slice none 0 0] 59)) b (.slice none 0 0) (.slice none 0 0)):=Fr.below b _ (zaa _ _);have hnb:=h.x.lt;have hw0:=h.bl.size;have HBo:Hid (∀W,RS E z w0 W b tv 0 0 v L->Cl 37 #[.pointer (some ⟨b,0,none⟩)] W fun e W'=>∃v',e=.returned v'/\RS E z w0 W' b tv a 0 v' ns/\Fr W W' b (.slice none 0 0) v'):=fun W h=>zhd hE hv h a ns hq
 have hal:a<=E.l.length:=(zes (Nat.zero_le _) hq).2;obtain ⟨t2,ht2,hk2,hpl2,_⟩:=zav E z hal;have HH2:Hid (∀W v,RS E z w0 W b tv a 0 v ns->Cl 33 #[.pointer (some ⟨b,0,none⟩)] W (rB W (.agg #[.int .i64 t2.kd,.int .i64 t2.nn,.int .i64 t2.fr,.int .i64 t2.en,.string t2.tx,.int .u64 t2.s0,.int .u64 t2.s1,.int .u64 t2.s2,.int .u64 t2.s3]))):=fun W v h=>zay h t2 ht2
 have t1:(t2.kd != 0)=false:=by rw [hk2,hz];simp
 clear h ht hk hpl hE hv hq ht2 hk2 hpl2 hz;generalize plA E z 0=p0 at *;go_enter Tryz.func23,Tryz.ntmps23;go_wp2_with fail;generalize W.alloc (.cells #[.int .i64 0,.string ⟨#[]⟩,.slice none 0 0] 59)=w1 at *;refine (HH _ H.out).mono ?_;rintro e w2 ⟨rfl,hb⟩;have H2:=hO (H.later hb);have HF2:Hid (Fr W w2 b (.slice none 0 0) (.slice none 0 0)):=HF.trans (Fr.below b _ hb);have HP2:=hO (HP.same (hb.block _ HP.lt));clear hb HH H HF HP;go_wp2_with fail;refine (HBo _ H2.out).mono ?_;rintro e w3 ⟨v3,rfl,h3,hf3⟩;have H3:=hO h3;have HF3:Hid (Fr W w3 b (.slice none 0 0) v3):=HF2.trans hf3;have HP3:=hO (HP2.same (hf3.block _ HP2.lt (by omega) (by intro q;cases q)));clear h3 hf3 H2 HF2 HP2 HBo;go_wp2_with fail;refine (HH2 _ _ H3.out).mono ?_;rintro e w4 ⟨rfl,hb⟩;have H4:=hO (H3.later hb);have HF4:Hid (Fr W w4 b (.slice none 0 0) v3):=HF3.trans (Fr.below b _ hb);have HP4:=hO (HP3.same (hb.block _ HP3.lt));clear hb H3 HF3 HP3 HH2;obtain ⟨c0,c1,c2⟩:=HP4.cl;have f0:=HP4.fz 0;have f1':=HP4.fz 1;have f2':=HP4.fz 2;obtain ⟨A3,n3,rfl⟩:=zaf H4.o;go_wp2_with fail;refine znr rfl rfl rfl (znq HP4 (.int .i64 p0) (.string ⟨#[]⟩) (.slice A3 ns.length n3)) ?_;exact ⟨_,rfl,H4.st3 HP4 hw0 _ _ _,HF4.st3 (nL _) _ _ _⟩
end Go.Proofs.YtkihfkcmcdiajabGreatDoor.N
