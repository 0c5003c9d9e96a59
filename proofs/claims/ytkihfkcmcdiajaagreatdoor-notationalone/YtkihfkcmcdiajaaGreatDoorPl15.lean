/- DERIVED. Plain mathematics and walks, laid together (15). -/
import Derived.Maps.AppendAt
import Derived.RegionTactic
import Derived.Laws.OwnMore
import Derived.Deep.RegionHeld3
import Derived.Test.YtkihfkcmcdiajaaGreatDoorPl14
set_option maxRecDepth 100000
set_option maxHeartbeats 8000000
namespace Go.Proofs.YtkihfkcmcdiajaaGreatDoor.N
open Go.RowKit
abbrev St:=Sum (Nat×Nat×List Nd) (Nat×Int)
def ow (st:St) (v:Value):Value:=match st with
 | .inl _=>v
 | .inr _=>.slice none 0 0
def Rv (E:PE) (z:Nat) (w0:World) (tv:Value) (W:World) (st:St) (i d:Int) (A:Option Addr) (l c:Nat) (p q:Int):Prop:=match st with
 | .inl s=>q=0/\p=0/\i=s.1/\d=s.2.1/\l=s.2.2.length/\DS E w0 W tv s.1 s.2.1 (.slice A l c) s.2.2
 | .inr e=>q=e.2/\p=plA E z e.1/\e.2≠0/\Below w0.heap.size w0 W
def Pu (E:PE) (z:Nat) (w0:World) (tv:Value) (W:World) (v:Value) (st st2:St) (e:Ending) (W':World):Prop :=
 ∃(i d:Int) (A:Option Addr) (l c:Nat) (p q:Int),e=.returned (rdV tv i z d (.slice A l c) p q)/\Rv E z w0 tv W' st2 i d A l c p q/\Fd W W' (ow st v) (ow st2 (.slice A l c))
def stR (d:Nat) (L:List Nd) (r:PR):St:=match r with
 | .inl p=>.inl (p.1,d,L++p.2)
 | .inr q=>.inr q
section
variable {E:PE} {z:Nat} {w0 W W':World} {tv:Value} {i d:Nat} {v:Value} {L:List Nd}
theorem PoD.u {r:PR} {e:Ending} (h:PoD E z w0 tv d W v L r e W') (hq:∀q,r=.inr q->q.2≠0):Pu E z w0 tv W v (.inl (i,d,L)) (stR d L r) e W':=by
 cases r with
 | inl p =>
  obtain ⟨v',rfl,h1,h2⟩:=h;obtain ⟨A,c,hv⟩:=zag h1.o;subst hv;exact ⟨_,_,A,_,c,_,_,rfl,⟨rfl,rfl,rfl,rfl,rfl,h1⟩,h2⟩
 | inr q =>
  obtain ⟨i',d',A,n,c,rfl,h1,h2⟩:=h;exact ⟨_,_,A,n,c,_,_,rfl,⟨rfl,rfl,hq _ rfl,h1⟩,h2⟩
theorem Pu.pod {s:Nat×Nat×List Nd} {r:PR} {e:Ending} (h:Pu E z w0 tv W v (.inl s) (stR d L r) e W'):PoD E z w0 tv d W v L r e W':=by
 obtain ⟨i',d',A,n,c,p,q,rfl,hr,hf⟩:=h
 cases r with
 | inl s2 =>
  obtain ⟨rfl,rfl,rfl,rfl,rfl,hd⟩:=hr;exact ⟨_,rfl,hd,hf⟩
 | inr q2 =>
  obtain ⟨rfl,rfl,_,hb⟩:=hr;exact ⟨_,_,A,n,c,rfl,hb,hf⟩
end
structure WS (E:PE) (z:Nat) (w0:World) (tv:Value) (W:World) (nb:Nat) (v0:Value) (Wc:World) (st:St) (i d:Int) (A:Option Addr) (l c:Nat) (p q:Int):Prop where
 rv:Rv E z w0 tv Wc st i d A l c p q
 fd:Fd W Wc v0 (ow st (.slice A l c))
 ap:∀k,(ow st (.slice A l c)).ownBlock=some k->k<W.heap.size∨W.heap.size+nb<=k
 tk:∀k,tv.ownBlock=some k->k<W.heap.size
 sz:W.heap.size+nb<=Wc.heap.size
 lo:w0.heap.size<=W.heap.size
theorem Rv.moved {E:PE} {z:Nat} {w0 W W':World} {tv:Value} {st:St} {i d:Int} {A:Option Addr} {l c:Nat} {p q:Int} (h:Rv E z w0 tv W st i d A l c p q) (hb:Below w0.heap.size w0 W->Below w0.heap.size w0 W') (ht:∀k,tv.ownBlock=some k->W'.heap[k]?=W.heap[k]?) (ho:∀k,(ow st (.slice A l c)).ownBlock=some k->W'.heap[k]?=W.heap[k]?):Rv E z w0 tv W' st i d A l c p q:=by
 cases st with
 | inl s =>
  obtain ⟨e1,e2,e3,e4,e5,hd⟩:=h;exact ⟨e1,e2,e3,e4,e5,hb hd.bl,zam hd.t ht,zam hd.o ho,hd.hi,hd.hd⟩
 | inr e=>exact ⟨h.1,h.2.1,h.2.2.1,hb h.2.2.2⟩
theorem Rv.later {E:PE} {z:Nat} {w0 W W':World} {tv:Value} {st:St} {i d:Int} {A:Option Addr} {l c:Nat} {p q:Int} (h:Rv E z w0 tv W st i d A l c p q) (hb:Below W.heap.size W W'):Rv E z w0 tv W' st i d A l c p q:=by
 cases st with
 | inl s =>
  obtain ⟨e1,e2,e3,e4,e5,hd⟩:=h;exact ⟨e1,e2,e3,e4,e5,hd.later hb⟩
 | inr e=>exact ⟨h.1,h.2.1,h.2.2.1,h.2.2.2.trans (hb.mono h.2.2.2.size)⟩
section
variable {E:PE} {z:Nat} {w0 W:World} {tv:Value} {nb:Nat} {v0:Value} {Wc W':World} {st st2:St} {i d:Int} {A:Option Addr} {l c:Nat} {p q:Int} {i2 d2:Int} {A2:Option Addr} {l2 c2:Nat} {p2 q2:Int}
theorem WS.new {a b:Nat} {L:List Nd} (h:DS E w0 W tv a b (.slice A L.length c) L) (hb:Below W.heap.size W Wc) (hs:W.heap.size+nb<=Wc.heap.size):WS E z w0 tv W nb (.slice A L.length c) Wc (.inl (a,b,L)) a b A L.length c 0 0 :=
 ⟨⟨rfl,rfl,rfl,rfl,rfl,h.later hb⟩,Fd.below _ hb,fun k e=>.inl (h.o.lt k e).2,fun k e=>(h.t.lt k e).2,hs,h.bl.size⟩
theorem WS.call (h:WS E z w0 tv W nb v0 Wc st i d A l c p q) (hr:Rv E z w0 tv W' st2 i2 d2 A2 l2 c2 p2 q2) (hf:Fd Wc W' (ow st (.slice A l c)) (ow st2 (.slice A2 l2 c2))):WS E z w0 tv W nb v0 W' st2 i2 d2 A2 l2 c2 p2 q2 :=
 ⟨hr,h.fd.trans hf,fun k e=>by
  rcases hf.own k e with r | r
  ·exact h.ap k r
  ·exact .inr (Nat.le_trans h.sz r),h.tk,Nat.le_trans h.sz hf.size,h.lo⟩
theorem WS.keep (h:WS E z w0 tv W nb v0 Wc st i d A l c p q) {u:Value} (hf:Fd Wc W' (ow st (.slice A l c)) u) (k:Nat) (h1:W.heap.size<=k) (h2:k<W.heap.size+nb):W'.heap[k]?=Wc.heap[k]? :=
 hf.block k (nM h2 h.sz) fun e=>by
  rcases h.ap k e with r | r <;> omega
theorem WS.later (h:WS E z w0 tv W nb v0 Wc st i d A l c p q) (hb:Below Wc.heap.size Wc W'):WS E z w0 tv W nb v0 W' st i d A l c p q:=h.call (h.rv.later hb) (Fd.below _ hb)
theorem WS.moved (h:WS E z w0 tv W nb v0 Wc st i d A l c p q) {k:Nat} (h1:W.heap.size<=k) (h2:k<W.heap.size+nb) (hb:Below w0.heap.size w0 Wc->Below w0.heap.size w0 W') (hs:Wc.heap.size<=W'.heap.size) (hx:∀j,j≠k->W'.heap[j]?=Wc.heap[j]?):WS E z w0 tv W nb v0 W' st i d A l c p q :=
 ⟨h.rv.moved hb (fun j e=>hx j (by have:=h.tk j e;omega)) (fun j e=>hx j (by rcases h.ap j e with r | r <;> omega)),⟨Nat.le_trans h.fd.size hs,fun j hj e=>(hx j (by omega)).trans (h.fd.block j hj e),h.fd.own⟩,h.ap,h.tk,Nat.le_trans h.sz hs,h.lo⟩
theorem WS.set (h:WS E z w0 tv W nb v0 Wc st i d A l c p q) {k:Nat} (h1:W.heap.size<=k) (h2:k<W.heap.size+nb) (j:Nat) (u:Value):WS E z w0 tv W nb v0 (Wc.setCell ⟨k,j,none⟩ u) st i d A l c p q :=
 h.moved h1 h2 (fun hb=>hb.setCell (p:=⟨k,j,none⟩) (Nat.le_trans h.lo h1) _) (by simp [World.setCell]) fun _ hj=>bS _ _ _ _ hj
theorem WS.st7 (h:WS E z w0 tv W nb v0 Wc st i d A l c p q) {k:Nat} (h1:W.heap.size<=k) (h2:k<W.heap.size+nb) (a0 a1 a2 a3 a4 a5 a6:Value):WS E z w0 tv W nb v0 (st7 Wc k a0 a1 a2 a3 a4 a5 a6) st i d A l c p q :=
 h.moved h1 h2 (fun hb=>zaq hb (Nat.le_trans h.lo h1) _ _ _ _ _ _ _) (by rw [zeg];exact nL _) fun _ hj=>zav _ _ _ _ _ _ _ hj
def upS (st:St):St:=match st with
 | .inl s=>.inl (s.1+1,s.2)
 | .inr e=>.inr e
def dnS (st:St):St:=match st with
 | .inl s=>.inl (s.1,s.2.1 - 1,s.2.2)
 | .inr e=>.inr e
theorem WS.up (h:WS E z w0 tv W nb v0 Wc st i d A l c p q) (hi:∀s,st=.inl s->s.1<E.l.length) (hz:E.l.length<=1000000):WS E z w0 tv W nb v0 Wc (upS st) (IntKind.i64.wrap (i+1)) d A l c p q:=by
 cases st with
 | inr e=>exact ⟨h.rv,h.fd,h.ap,h.tk,h.sz,h.lo⟩
 | inl s =>
  obtain ⟨e1,e2,rfl,e4,e5,hd⟩:=h.rv;have:=hi _ rfl;exact ⟨⟨e1,e2,by rw [wI];show _=((s.1+1:Nat):Int);omega,e4,e5,hd.at this⟩,h.fd,h.ap,h.tk,h.sz,h.lo⟩
theorem WS.dn (h:WS E z w0 tv W nb v0 Wc st i d A l c p q) (hi:∀s,st=.inl s->0<s.2.1):WS E z w0 tv W nb v0 Wc (dnS st) i (IntKind.i64.wrap (d - 1)) A l c p q:=by
 cases st with
 | inr e=>exact ⟨h.rv,h.fd,h.ap,h.tk,h.sz,h.lo⟩
 | inl s =>
  obtain ⟨e1,e2,e3,rfl,e5,hd⟩:=h.rv;have h0:=hi _ rfl;have h1:=hd.hd;exact ⟨⟨e1,e2,e3,by rw [wI];show _=((s.2.1 - 1:Nat):Int);omega,e5,hd.dp (show s.2.1 - 1<=240 by omega)⟩,h.fd,h.ap,h.tk,h.sz,h.lo⟩
theorem WS.bl (h:WS E z w0 tv W nb v0 Wc st i d A l c p q):Below w0.heap.size w0 Wc:=by
 have h1:=h.rv
 cases st with
 | inl s=>exact h1.2.2.2.2.2.bl
 | inr e=>exact h1.2.2.2
theorem WS.pu (h:WS E z w0 tv W nb v0 Wc st i d A l c p q) (s:Nat×Nat×List Nd):Pu E z w0 tv W v0 (.inl s) st (.returned (rdV tv i z d (.slice A l c) p q)) Wc:=⟨_,_,_,_,_,_,_,rfl,h.rv,h.fd⟩
end
def zgk (n:Nd) (st:St):St:=match st with
 | .inl s=>.inl (s.1,s.2.1,s.2.2++(if n.op=0 then [] else [n]))
 | .inr e=>.inr e
def tkS (E:PE) (k:Int) (st:St):St:=match st with
 | .inl s=>if kdA E s.1=k then .inl (s.1+1,s.2) else .inr (s.1,60)
 | .inr e=>.inr e
def opS (st:St):St:=match st with
 | .inl s=>if 240<=s.2.1 then .inr (s.1,4) else .inl (s.1,s.2.1+1,s.2.2)
 | .inr e=>.inr e
def gnS (E:PE) (m:Nat) (st:St):St:=match st with
 | .inl s=>stR s.2.1 s.2.2 (gN E m s.1 s.2.1)
 | .inr e=>.inr e
section
variable {E:PE} {z:Nat} {w0 W:World} {At:Option Addr} {ct:Nat} {st:St} {i d:Int} {A:Option Addr} {l c:Nat} {p q:Int}
theorem putU (h:Rv E z w0 (.slice At E.l.length ct) W st i d A l c p q) (n:Nd) (hl:∀s,st=.inl s->s.2.2.length+1<=2000000000000) :
  Calls Tryz.prog 83 #[rdV (.slice At E.l.length ct) i z d (.slice A l c) p q,T.ndG n] W fun e W'=>Pu E z w0 (.slice At E.l.length ct) W (.slice A l c) st (zgk n st) e W':=by
 cases st with
 | inr e =>
  refine (zg5 At E.l.length ct i z d A l c p q n (by rw [h.1];exact h.2.2.1) W).mono ?_;rintro e' W' ⟨rfl,hb⟩;exact ⟨_,_,_,_,_,_,_,rfl,h.later hb,Fd.below _ hb⟩
 | inl s =>
  by_cases hn:n.op=0
  ·have hp:zgk n (.inl s)=.inl s:=by unfold zgk;rw [iP hn];simp
   rw [hp];refine (zkt At E.l.length ct i z d A l c p q n h.1 hn W).mono ?_;rintro e' W' ⟨rfl,hb⟩;exact ⟨_,_,_,_,_,_,_,rfl,h.later hb,Fd.below _ hb⟩
  ·obtain ⟨rfl,rfl,rfl,rfl,rfl,hd⟩:=h
   refine (zg6 hd s.1 z s.2.1 0 n hn (hl _ rfl)).mono ?_;rintro e' W' ⟨v',rfl,h1,h2⟩;have hp:zgk n (.inl s)=.inl (s.1,s.2.1,s.2.2++[n]):=by unfold zgk;rw [iN hn]
   rw [hp];obtain ⟨A2,c2,hv⟩:=zag h1.o;subst hv;exact ⟨_,_,A2,_,c2,_,_,rfl,⟨rfl,rfl,rfl,rfl,rfl,h1⟩,h2⟩
theorem takesU (h:Rv E z w0 (.slice At E.l.length ct) W st i d A l c p q) (x:Int) (hx:x≠0) (hz:E.l.length<=1000000) :
  Calls Tryz.prog 187 #[rdV (.slice At E.l.length ct) i z d (.slice A l c) p q,.int .i64 x] W fun e W'=>Pu E z w0 (.slice At E.l.length ct) W (.slice A l c) st (tkS E x st) e W':=by
 cases st with
 | inr e =>
  refine (zku At E.l.length ct i z d A l c p q x (by rw [h.1];exact h.2.2.1) W).mono ?_;rintro e' W' ⟨rfl,hb⟩;exact ⟨_,_,_,_,_,_,_,rfl,h.later hb,Fd.below _ hb⟩
 | inl s =>
  obtain ⟨rfl,rfl,rfl,rfl,rfl,hd⟩:=h;by_cases hk:kdA E s.1=x
  ·have hlt:=za6 (E:=E) (i:=s.1) (by rw [hk];exact hx)
   have hp:tkS E x (.inl s)=.inl (s.1+1,s.2):=iP hk;rw [hp];refine (zkv hd z s.2.1 0 x hz hk hlt).mono ?_;rintro e' W' ⟨rfl,hb⟩;exact ⟨_,_,_,_,_,_,_,rfl,⟨rfl,rfl,rfl,rfl,rfl,(hd.later hb).at hlt⟩,Fd.below _ hb⟩
  ·have hp:tkS E x (.inl s)=.inr (s.1,60):=iN hk
   rw [hp];refine (zio hd z s.2.1 0 x hz hk).mono ?_;rintro e' W' ⟨rfl,hb⟩;exact ⟨_,_,_,_,_,_,_,rfl,⟨rfl,rfl,by show (60:Int)≠0;decide,(hd.later hb).bl⟩,(Fd.below _ hb).weak⟩
theorem zmZ (h:Rv E z w0 (.slice At E.l.length ct) W st i d A l c p q) (hg:∃s,st=.inl s) :
  Calls Tryz.prog 141 #[rdV (.slice At E.l.length ct) i z d (.slice A l c) p q] W fun e W'=>Pu E z w0 (.slice At E.l.length ct) W (.slice A l c) st (opS st) e W':=by
 obtain ⟨s,rfl⟩:=hg;obtain ⟨rfl,rfl,rfl,rfl,rfl,hd⟩:=h;by_cases hk:240<=s.2.1
 ·have hp:opS (.inl s)=.inr (s.1,4):=iP hk
  rw [hp];refine (zks hd z 0 hk).mono ?_;rintro e' W' ⟨rfl,hb⟩;exact ⟨_,_,_,_,_,_,_,rfl,⟨rfl,rfl,by show (4:Int)≠0;decide,(hd.later hb).bl⟩,(Fd.below _ hb).weak⟩
 ·have hp:opS (.inl s)=.inl (s.1,s.2.1+1,s.2.2):=iN hk
  rw [hp];refine (zkr hd s.1 z 0 0 hk).mono ?_;rintro e' W' ⟨rfl,hb⟩;exact ⟨_,_,_,_,_,_,_,rfl,⟨rfl,rfl,rfl,rfl,rfl,(hd.later hb).dp (show s.2.1+1<=240 by omega)⟩,Fd.below _ hb⟩
end
theorem zoD (At:Option Addr) (nt ct:Nat) (i z d:Int) (A:Option Addr) (l c:Nat) (p q:Int) (hq:q≠0) (W:World):Calls Tryz.prog 111 #[rdV (.slice At nt ct) i z d (.slice A l c) p q] W (rB W (rdV (.slice At nt ct) i z d (.slice A l c) p q)):=by
 have HK:Hid (∀W,Cl 28 #[rdV (.slice At nt ct) i z d (.slice A l c) p q] W (rB W (.bool false))):=fun W=>by
  have:=zaO At nt ct i z d A l c p q W;rw [show (q==0)=false from by simpa using hq] at this;exact this
 have HF:Hid (∀W,Cl 32 #[rdV (.slice At nt ct) i z d (.slice A l c) p q,.int .i64 60] W (rB W (rdV (.slice At nt ct) i z d (.slice A l c) p q))):=fun W=>zhI At nt ct i z d A l c p q 60 hq W
 have HX:=BX.new W (.slice At nt ct) i z d (.slice A l c) p q;have HBX:=hO HX.1;have HBL:=hO HX.2;clear HX hq;go_enter Tryz.func111,Tryz.ntmps111;go_wp2_with fail;generalize (W.alloc (rdO (.slice At nt ct) i z d (.slice A l c) p q)).alloc rdZ=w1 at *;refine (HK _).mono ?_;rintro e w2 ⟨rfl,hb⟩;have HX2:=hO (HBX.later hb);have HB2:Hid (Below W.heap.size W w2):=HBL.trans (hb.mono HBL.size);clear hb HK HBX HBL;obtain ⟨k0,k1,k2,k3,k4,k5,k6⟩:=HX2.s.cl;go_wp2_with fail;refine (HF _).mono ?_;rintro e w3 ⟨rfl,hb⟩;have HX3:=hO (HX2.later hb);have HB3:Hid (Below W.heap.size W w3):=HB2.trans (hb.mono HB2.size);clear hb HF HX2 HB2 k0 k1 k2 k3 k4 k5 k6;obtain ⟨f0,f1,f2,f3,f4,f5,f6⟩:=HX3.r.fzs;obtain ⟨m0,m1,m2,m3,m4,m5,m6⟩:=HX3.r.cl;go_wp2_with fail;refine zaU (s:=2) rfl rfl rfl (zaF HX3.r _ _ _ _ _ _ _) ?_;exact ⟨rfl,zaq HB3 (by omega) _ _ _ _ _ _ _⟩
theorem zoE (At:Option Addr) (nt ct:Nat) (i z d:Int) (A:Option Addr) (l c:Nat) (p q:Int) (hq:q≠0) (W:World):Calls Tryz.prog 51 #[rdV (.slice At nt ct) i z d (.slice A l c) p q] W (rB W (rdV (.slice At nt ct) i z d (.slice A l c) p q)):=by
 have HK:Hid (∀W,Cl 28 #[rdV (.slice At nt ct) i z d (.slice A l c) p q] W (rB W (.bool false))):=fun W=>by
  have:=zaO At nt ct i z d A l c p q W;rw [show (q==0)=false from by simpa using hq] at this;exact this
 have HX:=BX.new W (.slice At nt ct) i z d (.slice A l c) p q;have HBX:=hO HX.1;have HBL:=hO HX.2;clear HX hq;go_enter Tryz.func51,Tryz.ntmps51;go_wp2_with fail;generalize (W.alloc (rdO (.slice At nt ct) i z d (.slice A l c) p q)).alloc rdZ=w1 at *;refine (HK _).mono ?_;rintro e w2 ⟨rfl,hb⟩;have HX2:=hO (HBX.later hb);have HB2:Hid (Below W.heap.size W w2):=HBL.trans (hb.mono HBL.size);clear hb HK HBX HBL;obtain ⟨k0,k1,k2,k3,k4,k5,k6⟩:=HX2.s.cl;obtain ⟨f0,f1,f2,f3,f4,f5,f6⟩:=HX2.r.fzs;obtain ⟨m0,m1,m2,m3,m4,m5,m6⟩:=HX2.r.cl;go_wp2_with fail;refine zaU (s:=2) rfl rfl rfl (zaF HX2.r _ _ _ _ _ _ _) ?_;exact ⟨rfl,zaq HB2 (by omega) _ _ _ _ _ _ _⟩
theorem anyU {F m:Nat} {E:PE} {z:Nat} {w0 W:World} {At:Option Addr} {ct:Nat} {st:St} {i d:Int} {A:Option Addr} {l c:Nat} {p q:Int} (hno:∀(i z d:Int) (A:Option Addr) (l c:Nat) (p q:Int),q≠0->∀W,Calls Tryz.prog F #[rdV (.slice At E.l.length ct) i z d (.slice A l c) p q] W (rB W (rdV (.slice At E.l.length ct) i z d (.slice A l c) p q)))
  (h:Rv E z w0 (.slice At E.l.length ct) W st i d A l c p q) (hm:m≠5) (hc:∀s,st=.inl s->Cd F E z w0 (.slice At E.l.length ct) s.1 s.2.1 (gN E m s.1 s.2.1)/\s.2.2.length<=10027010 * s.1) :
  Calls Tryz.prog F #[rdV (.slice At E.l.length ct) i z d (.slice A l c) p q] W fun e W'=>Pu E z w0 (.slice At E.l.length ct) W (.slice A l c) st (gnS E m st) e W':=by
 cases st with
 | inr e =>
  refine (hno i z d A l c p q (by rw [h.1];exact h.2.2.1) W).mono ?_;rintro e' W' ⟨rfl,hb⟩;exact ⟨_,_,_,_,_,_,_,rfl,h.later hb,Fd.below _ hb⟩
 | inl s =>
  obtain ⟨rfl,rfl,rfl,rfl,rfl,hd⟩:=h;obtain ⟨h1,h2⟩:=hc _ rfl;refine (h1 W _ _ hd h2).mono fun e' W' hp=>PoD.u hp fun q hq=>?_
  have:=(zbz hd.hi (fun e=>absurd e hm) hq).2;omega
section
variable {k:Nat} {W W':World} {tv:Value} {i z d:Int} {v:Value} {p c:Int} {n:Nd}
theorem BN.kept (h:BN k W tv i z d v p c n) (hk:∀j,k<=j->j<k+3->W'.heap[j]?=W.heap[j]?):BN k W' tv i z d v p c n:=⟨h.s.same (hk _ (by omega) (by omega)),h.x.same (hk _ (by omega) (by omega)),h.r.same (hk _ (by omega) (by omega))⟩
theorem BN.st (h:BN k W tv i z d v p c n) (tv2:Value) (i2 z2 d2:Int) (v2:Value) (p2 c2:Int):BN k (st7 W k tv2 (.int .i64 i2) (.int .i64 z2) (.int .i64 d2) v2 (.int .i64 p2) (.int .i64 c2)) tv2 i2 z2 d2 v2 p2 c2 n :=
 ⟨zaF h.s _ _ _ _ _ _ _,h.x.same (zav _ _ _ _ _ _ _ (by omega)),h.r.same (zav _ _ _ _ _ _ _ (by omega))⟩
theorem BN.s1 (h:BN k W tv i z d v p c n) (x:Int):BN k (W.setCell ⟨k,1,none⟩ (.int .i64 x)) tv x z d v p c n:=⟨h.s.s1 _,h.x.same (bS _ _ _ _ (by show k+1≠k;omega)),h.r.same (bS _ _ _ _ (by show k+2≠k;omega))⟩
theorem BN.s3 (h:BN k W tv i z d v p c n) (x:Int):BN k (W.setCell ⟨k,3,none⟩ (.int .i64 x)) tv i z x v p c n:=⟨h.s.s3 _,h.x.same (bS _ _ _ _ (by show k+1≠k;omega)),h.r.same (bS _ _ _ _ (by show k+2≠k;omega))⟩
theorem BX.kept (h:BX k W tv i z d v p c) (hk:∀j,k<=j->j<k+2->W'.heap[j]?=W.heap[j]?):BX k W' tv i z d v p c:=⟨h.s.same (hk _ (by omega) (by omega)),h.r.same (hk _ (by omega) (by omega))⟩
end
theorem zkw {st:St} {s:Nat×Nat×List Nd} (h:upS st=.inl s):∃s0,st=.inl s0/\s=(s0.1+1,s0.2):=by
 cases st with
 | inl s0=>exact ⟨s0,rfl,(Sum.inl.inj h).symm⟩
 | inr e=>cases h
theorem zkx {st:St} {s:Nat×Nat×List Nd} (h:dnS st=.inl s):∃s0,st=.inl s0/\s=(s0.1,s0.2.1 - 1,s0.2.2):=by
 cases st with
 | inl s0=>exact ⟨s0,rfl,(Sum.inl.inj h).symm⟩
 | inr e=>cases h
theorem zky {s0 s:Nat×Nat×List Nd} (h:opS (.inl s0)=.inl s):¬240<=s0.2.1/\s=(s0.1,s0.2.1+1,s0.2.2):=by
 by_cases hd:240<=s0.2.1
 ·rw [show opS (.inl s0)=.inr (s0.1,4) from iP hd] at h;cases h
 ·rw [show opS (.inl s0)=.inl (s0.1,s0.2.1+1,s0.2.2) from iN hd] at h;exact ⟨hd,(Sum.inl.inj h).symm⟩
theorem zoF {E:PE} {k:Int} {st:St} {s:Nat×Nat×List Nd} (h:tkS E k st=.inl s):∃s0,st=.inl s0/\kdA E s0.1=k/\s=(s0.1+1,s0.2):=by
 cases st with
 | inr e=>cases h
 | inl s0 =>
  by_cases hd:kdA E s0.1=k
  ·rw [show tkS E k (.inl s0)=.inl (s0.1+1,s0.2) from iP hd] at h;exact ⟨s0,rfl,hd,(Sum.inl.inj h).symm⟩
  ·rw [show tkS E k (.inl s0)=.inr (s0.1,60) from iN hd] at h;cases h
theorem zkz {E:PE} {m:Nat} {st:St} {s:Nat×Nat×List Nd} (h:gnS E m st=.inl s):∃s0 a ns,st=.inl s0/\gN E m s0.1 s0.2.1=.inl (a,ns)/\s=(a,s0.2.1,s0.2.2++ns):=by
 cases st with
 | inr e=>cases h
 | inl s0 =>
  have h2:stR s0.2.1 s0.2.2 (gN E m s0.1 s0.2.1)=.inl s:=h
  cases hr:gN E m s0.1 s0.2.1 with
  | inr q=>rw [hr] at h2;cases h2
  | inl p=>rw [hr] at h2;exact ⟨s0,p.1,p.2,rfl,hr,(Sum.inl.inj h2).symm⟩
def pnN (n:Nd):List Nd:=if n.op=0 then [] else [n]
theorem wi_eq (E:PE) (i d:Nat) (L:List Nd) (cl:Int) (n:Nd):zgk n (dnS (tkS E cl (gnS E 0 (upS (opS (.inl (i,d,L)))))))=stR d L (bnd (rW E i d cl) fun a ms=>.inl (a,ms++pnN n)):=by
 unfold rW;by_cases hd:240<=d
 ·rw [iP hd,show opS (.inl (i,d,L))=.inr (i,4) from iP hd];rfl
 ·rw [iN hd,show opS (.inl (i,d,L))=.inl (i,d+1,L) from iN hd]
  show zgk n (dnS (tkS E cl (stR (d+1) L (gN E 0 (i+1) (d+1)))))=_
  cases gN E 0 (i+1) (d+1) with
  | inr q=>rfl
  | inl p =>
   show zgk n (dnS (if kdA E p.1=cl then .inl (p.1+1,d+1,L++p.2) else .inr (p.1,60)))=stR d L (bnd (if kdA E p.1=cl then .inl (p.1+1,p.2) else .inr (p.1,60)) _)
   by_cases hk:kdA E p.1=cl
   ·rw [iP hk,iP hk]
    show Sum.inl (p.1+1,d,(L++p.2)++pnN n)=Sum.inl (p.1+1,d,L++(p.2++pnN n))
    rw [List.append_assoc]
   ·rw [iN hk,iN hk];rfl
theorem ah_eq (E:PE) (i d:Nat) (L:List Nd) (n:Nd) (hn:n.op≠0) (op:Int) (he:n=nd0 op):zgk n (dnS (gnS E 4 (upS (opS (.inl (i,d,L))))))=stR d L (rA E i d op):=by
 subst he;unfold rA;by_cases hd:240<=d
 ·rw [iP hd,show opS (.inl (i,d,L))=.inr (i,4) from iP hd];rfl
 ·rw [iN hd,show opS (.inl (i,d,L))=.inl (i,d+1,L) from iN hd]
  show zgk (nd0 op) (dnS (stR (d+1) L (gN E 4 (i+1) (d+1))))=_
  cases gN E 4 (i+1) (d+1) with
  | inr q=>rfl
  | inl p =>
   show Sum.inl (p.1,d,(L++p.2)++(if (nd0 op).op=0 then [] else [nd0 op]))=Sum.inl (p.1,d,L++(p.2++[nd0 op]))
   rw [iN hn,List.append_assoc]
theorem zkA {E:PE} (hE:OkE E) {z:Nat} {w0:World} {tv:Value} {i d:Nat} (cl:Int) (hcl:cl≠0) (n:Nd) (hlt:i<E.l.length) (HX0:Cd 51 E z w0 tv (i+1) (d+1) (gN E 0 (i+1) (d+1))) (W:World) (v:Value) (L:List Nd) (h:DS E w0 W tv (i+1) d v L) (hL:L.length<=10027010 * i) :
  Calls Tryz.prog 175 #[rdV tv (i+1:Nat) z d v 0 0,.int .i64 cl,T.ndG n] W fun e W'=>PoD E z w0 tv d W v L (bnd (rW E i d cl) fun a ms=>.inl (a,ms++pnN n)) e W':=by
 have hlen:=hE.len;have hz:=hE.z;obtain ⟨B,cB,hv⟩:=zag h.o;subst hv;obtain ⟨At,ct,htv,_⟩:=h.tk;subst htv
 suffices Hm:Calls Tryz.prog 175 #[rdV (.slice At E.l.length ct) (i+1:Nat) z d (.slice B L.length cB) 0 0,.int .i64 cl,T.ndG n] W fun e W'=>Pu E z w0 (.slice At E.l.length ct) W (.slice B L.length cB) (.inl (i,d,L)) (stR d L (bnd (rW E i d cl) fun a ms=>.inl (a,ms++pnN n))) e W' from Hm.mono fun _ _ hp=>hp.pod
 rw [<-wi_eq];obtain ⟨s0,hs0⟩:∃s,s=(.inl (i,d,L):St):=⟨_,rfl⟩;obtain ⟨s1,hs1⟩:∃s,s=opS s0:=⟨_,rfl⟩;obtain ⟨s2,hs2⟩:∃s,s=upS s1:=⟨_,rfl⟩;obtain ⟨s3,hs3⟩:∃s,s=gnS E 0 s2:=⟨_,rfl⟩;obtain ⟨s4,hs4⟩:∃s,s=tkS E cl s3:=⟨_,rfl⟩;obtain ⟨s5,hs5⟩:∃s,s=dnS s4:=⟨_,rfl⟩;obtain ⟨s6,hs6⟩:∃s,s=zgk n s5:=⟨_,rfl⟩;have F1:∀s,s1=.inl s->s=(i,d+1,L):=fun s e=>by rw [hs1,hs0] at e;exact (zky e).2
 have F2:∀s,s2=.inl s->s=(i+1,d+1,L):=fun s e=>by
  rw [hs2] at e;obtain ⟨t,e1,e2⟩:=zkw e;rw [e2,F1 _ e1]
 have F4:∀s,s4=.inl s->s.2.1=d+1/\s.2.2.length+1<=2000000000000:=fun s e=>by
  rw [hs4] at e;obtain ⟨t,e1,_,e2⟩:=zoF e;rw [hs3] at e1;obtain ⟨t2,a,ns,e3,e4,e5⟩:=zkz e1;have e6:=F2 _ e3;subst e6 e5 e2;have h1:=(zbW hE.rl (i:=i+1) (by omega) (by omega) e4).2;have h2:=(zbM (i:=i+1) (by omega) (by omega) e4).2.1;refine ⟨rfl,?_⟩
  show (L++ns).length+1<=_
  rw [lA];omega
 have H1:Hid (∀s,s1=.inl s->s.1<E.l.length):=fun s e=>by rw [F1 s e];exact hlt
 have H4:Hid (∀s,s4=.inl s->0<s.2.1):=fun s e=>by rw [(F4 s e).1];omega
 have HOp:Hid (∀(W:World) (i d:Int) (A:Option Addr) (l c:Nat) (p q:Int),Rv E z w0 (.slice At E.l.length ct) W s0 i d A l c p q->Cl 141 #[rdV (.slice At E.l.length ct) i z d (.slice A l c) p q] W fun e W'=>Pu E z w0 (.slice At E.l.length ct) W (.slice A l c) s0 s1 e W'):=fun W i d A l c p q h=>by rw [hs1];exact zmZ h ⟨_,hs0⟩
 have HEx:Hid (∀(W:World) (i d:Int) (A:Option Addr) (l c:Nat) (p q:Int),Rv E z w0 (.slice At E.l.length ct) W s2 i d A l c p q->Cl 51 #[rdV (.slice At E.l.length ct) i z d (.slice A l c) p q] W fun e W'=>Pu E z w0 (.slice At E.l.length ct) W (.slice A l c) s2 s3 e W'):=fun W i' d' A l c p q h=>by
  rw [hs3];refine anyU (m:=0) (zoE At E.l.length ct) h (by decide) fun s e=>?_
  rw [F2 s e];exact ⟨HX0,by show L.length<=10027010 * (i+1);omega⟩
 have HTk:Hid (∀(W:World) (i d:Int) (A:Option Addr) (l c:Nat) (p q:Int),Rv E z w0 (.slice At E.l.length ct) W s3 i d A l c p q->Cl 187 #[rdV (.slice At E.l.length ct) i z d (.slice A l c) p q,.int .i64 cl] W fun e W'=>Pu E z w0 (.slice At E.l.length ct) W (.slice A l c) s3 s4 e W'):=fun W i d A l c p q h=>by rw [hs4];exact takesU h cl hcl hz
 have HPu:Hid (∀(W:World) (i d:Int) (A:Option Addr) (l c:Nat) (p q:Int),Rv E z w0 (.slice At E.l.length ct) W s5 i d A l c p q->Cl 83 #[rdV (.slice At E.l.length ct) i z d (.slice A l c) p q,T.ndG n] W fun e W'=>Pu E z w0 (.slice At E.l.length ct) W (.slice A l c) s5 s6 e W'):=fun W i d A l c p q h=>by
  rw [hs6];refine putU h n fun s e=>?_
  rw [hs5] at e;obtain ⟨t,e1,e2⟩:=zkx e;rw [e2];exact (F4 _ e1).2
 have HX:=BN.new W (.slice At E.l.length ct) i z d (.slice B L.length cB) 0 0 n;have HB:=hO HX.1;have HW:Hid (WS E z w0 (.slice At E.l.length ct) W 3 (.slice B L.length cB) (((W.alloc (rdO (.slice At E.l.length ct) i z d (.slice B L.length cB) 0 0)).alloc (T.ndO n)).alloc rdZ) s0 i d B L.length cB 0 0):=by
  rw [hs0];exact WS.new (h.at (by omega)) HX.2 (by rw [sA,sA,sA];omega)
 rw [<-hs0,<-hs1,<-hs2,<-hs3,<-hs4,<-hs5,<-hs6];have HS0:=hO hs0;have HS2:Hid (upS s1=s2):=hs2.symm;have HS5:Hid (dnS s4=s5):=hs5.symm;have HZ:Hid (E.l.length<=1000000):=hz;obtain ⟨ii,hii⟩:∃x:Int,x=((i+1:Nat):Int):=⟨_,rfl⟩;have u0:IntKind.i64.wrap (ii - 1)=(i:Int):=by rw [wI];omega
 rw [<-hii];clear hs0 hs1 hs2 hs3 hs4 hs5 hs6 F1 F2 F4 HX h hL HX0 hE hlt hlen hz hcl hii;go_enter Tryz.func175,Tryz.ntmps175;go_wp2_with fail;generalize ((W.alloc (rdO (.slice At E.l.length ct) i z d (.slice B L.length cB) 0 0)).alloc (T.ndO n)).alloc rdZ=w1 at *;refine (HOp _ _ _ _ _ _ _ _ HW.rv).mono ?_;rintro e w2 ⟨i2,d2,A2,l2,c2,p2,q2,rfl,hr,hf⟩;have HB2:=hO (HB.kept (HW.keep hf));have HW2:=hO (HW.call hr hf);clear hr hf HOp HW HB;obtain ⟨k0,k1,k2,k3,k4,k5,k6⟩:=HB2.s.cl;obtain ⟨f0,f1,f2,f3,f4,f5,f6⟩:=HB2.s.fzs;obtain ⟨v2,hv2⟩:∃w,(((((((w2.setCell ⟨W.heap.size,0,none⟩ (.slice At E.l.length ct)).setCell ⟨W.heap.size,1,none⟩ (.int .i64 i2)).setCell ⟨W.heap.size,2,none⟩ (.int .i64 z)).setCell ⟨W.heap.size,3,none⟩ (.int .i64 d2)).setCell ⟨W.heap.size,4,none⟩ (.slice A2 l2 c2)).setCell ⟨W.heap.size,5,none⟩ (.int .i64 p2)).setCell ⟨W.heap.size,6,none⟩ (.int .i64 q2))=w:=⟨_,rfl⟩;have HBs:Hid (BN W.heap.size v2 (.slice At E.l.length ct) i2 z d2 (.slice A2 l2 c2) p2 q2 n):=by rw [<-hv2];exact HB2.st _ _ _ _ _ _ _
 have HWs:Hid (WS E z w0 (.slice At E.l.length ct) W 3 (.slice B L.length cB) v2 s1 i2 d2 A2 l2 c2 p2 q2):=by rw [<-hv2];exact HW2.st7 (nL _) (by omega) _ _ _ _ _ _ _
 have HEs:=hO hv2;obtain ⟨h0,h1,h2,h3,h4,h5,h6⟩:=HBs.s.cl;obtain ⟨g0,g1,g2,g3,g4,g5,g6⟩:=HBs.s.fzs;clear hv2 HB2 HW2;obtain ⟨j2,hj2⟩:∃j,IntKind.i64.wrap (i2+1)=j:=⟨_,rfl⟩;go_wp2_with (rw [HEs.out])
 have HB3:=hO (HBs.s1 j2);have HW3:=hO ((HWs.set (nL _) (by omega) 1 (.int .i64 j2)).up H1.out HZ.out);rw [HS2.out,hj2] at HW3;clear hj2 HBs HWs HEs k0 k1 k2 k3 k4 k5 k6 f0 f1 f2 f3 f4 f5 f6 h0 h1 h2 h3 h4 h5 h6 g0 g1 g2 g3 g4 g5 g6;refine (HEx _ _ _ _ _ _ _ _ HW3.rv).mono ?_;rintro e w4 ⟨i4,d4,A4,l4,c4,p4,q4,rfl,hr,hf⟩;have HB4:=hO (HB3.kept (HW3.keep hf));have HW4:=hO (HW3.call hr hf);clear hr hf HEx HW3 HB3;obtain ⟨k0,k1,k2,k3,k4,k5,k6⟩:=HB4.s.cl;obtain ⟨f0,f1,f2,f3,f4,f5,f6⟩:=HB4.s.fzs;obtain ⟨v4,hv4⟩:∃w,(((((((w4.setCell ⟨W.heap.size,0,none⟩ (.slice At E.l.length ct)).setCell ⟨W.heap.size,1,none⟩ (.int .i64 i4)).setCell ⟨W.heap.size,2,none⟩ (.int .i64 z)).setCell ⟨W.heap.size,3,none⟩ (.int .i64 d4)).setCell ⟨W.heap.size,4,none⟩ (.slice A4 l4 c4)).setCell ⟨W.heap.size,5,none⟩ (.int .i64 p4)).setCell ⟨W.heap.size,6,none⟩ (.int .i64 q4))=w:=⟨_,rfl⟩;have HBs:Hid (BN W.heap.size v4 (.slice At E.l.length ct) i4 z d4 (.slice A4 l4 c4) p4 q4 n):=by rw [<-hv4];exact HB4.st _ _ _ _ _ _ _
 have HWs:Hid (WS E z w0 (.slice At E.l.length ct) W 3 (.slice B L.length cB) v4 s3 i4 d4 A4 l4 c4 p4 q4):=by rw [<-hv4];exact HW4.st7 (nL _) (by omega) _ _ _ _ _ _ _
 have HEs:=hO hv4;obtain ⟨h0,h1,h2,h3,h4,h5,h6⟩:=HBs.s.cl;obtain ⟨g0,g1,g2,g3,g4,g5,g6⟩:=HBs.s.fzs;clear hv4 HB4 HW4;go_wp2_with (rw [HEs.out])
 clear HEs k0 k1 k2 k3 k4 k5 k6 f0 f1 f2 f3 f4 f5 f6 h0 h1 h2 h3 h4 h5 h6 g0 g1 g2 g3 g4 g5 g6;refine (HTk _ _ _ _ _ _ _ _ HWs.rv).mono ?_;rintro e w6 ⟨i6,d6,A6,l6,c6,p6,q6,rfl,hr,hf⟩;have HB6:=hO (HBs.kept (HWs.keep hf));have HW6:=hO (HWs.call hr hf);clear hr hf HTk HWs HBs;obtain ⟨k0,k1,k2,k3,k4,k5,k6⟩:=HB6.s.cl;obtain ⟨f0,f1,f2,f3,f4,f5,f6⟩:=HB6.s.fzs;obtain ⟨v6,hv6⟩:∃w,(((((((w6.setCell ⟨W.heap.size,0,none⟩ (.slice At E.l.length ct)).setCell ⟨W.heap.size,1,none⟩ (.int .i64 i6)).setCell ⟨W.heap.size,2,none⟩ (.int .i64 z)).setCell ⟨W.heap.size,3,none⟩ (.int .i64 d6)).setCell ⟨W.heap.size,4,none⟩ (.slice A6 l6 c6)).setCell ⟨W.heap.size,5,none⟩ (.int .i64 p6)).setCell ⟨W.heap.size,6,none⟩ (.int .i64 q6))=w:=⟨_,rfl⟩;have HBs:Hid (BN W.heap.size v6 (.slice At E.l.length ct) i6 z d6 (.slice A6 l6 c6) p6 q6 n):=by rw [<-hv6];exact HB6.st _ _ _ _ _ _ _
 have HWs:Hid (WS E z w0 (.slice At E.l.length ct) W 3 (.slice B L.length cB) v6 s4 i6 d6 A6 l6 c6 p6 q6):=by rw [<-hv6];exact HW6.st7 (nL _) (by omega) _ _ _ _ _ _ _
 have HEs:=hO hv6;obtain ⟨h0,h1,h2,h3,h4,h5,h6⟩:=HBs.s.cl;obtain ⟨g0,g1,g2,g3,g4,g5,g6⟩:=HBs.s.fzs;clear hv6 HB6 HW6;obtain ⟨n0,n1,n2,n3,n4,n5,n6⟩:=zcd HBs.x;obtain ⟨j6,hj6⟩:∃j,IntKind.i64.wrap (d6 - 1)=j:=⟨_,rfl⟩;go_wp2_with (rw [HEs.out])
 have HB7:=hO (HBs.s3 j6);have HW7:=hO ((HWs.set (nL _) (by omega) 3 (.int .i64 j6)).dn H4.out);rw [HS5.out,hj6] at HW7;clear hj6 HBs HWs HEs k0 k1 k2 k3 k4 k5 k6 f0 f1 f2 f3 f4 f5 f6 h0 h1 h2 h3 h4 h5 h6 g0 g1 g2 g3 g4 g5 g6 n0 n1 n2 n3 n4 n5 n6;refine (HPu _ _ _ _ _ _ _ _ HW7.rv).mono ?_;rintro e w8 ⟨i8,d8,A8,l8,c8,p8,q8,rfl,hr,hf⟩;have HB8:=hO (HB7.kept (HW7.keep hf));have HW8:=hO (HW7.call hr hf);clear hr hf HPu HW7 HB7;obtain ⟨m0,m1,m2,m3,m4,m5,m6⟩:=HB8.r.cl;obtain ⟨f0,f1,f2,f3,f4,f5,f6⟩:=HB8.r.fzs;go_wp2_with fail;refine zaU (s:=6) rfl rfl rfl (zaF HB8.r _ _ _ _ _ _ _) ?_;rw [HS0.out];exact (HW8.st7 (by omega) (by omega) _ _ _ _ _ _ _).pu _
theorem zoG {E:PE} (hE:OkE E) {z:Nat} {w0:World} {tv:Value} {i d:Nat} (hb:bgn E i=false) (W:World) (v:Value) (L:List Nd) (h:DS E w0 W tv i d v L):Calls Tryz.prog 111 #[rdV tv i z d v 0 0] W fun e W'=>PoD E z w0 tv d W v L (.inr (i,60)) e W':=by
 have hi:=h.hi;have hlen:=hE.len;have hz:=hE.z;obtain ⟨B,cB,hv⟩:=zag h.o;subst hv;obtain ⟨At,ct,htv,_⟩:=h.tk;subst htv
 suffices Hm:Calls Tryz.prog 111 #[rdV (.slice At E.l.length ct) i z d (.slice B L.length cB) 0 0] W fun e W'=>Pu E z w0 (.slice At E.l.length ct) W (.slice B L.length cB) (.inl (i,d,L)) (stR d L (.inr (i,60))) e W' from Hm.mono fun _ _ hp=>hp.pod
 obtain ⟨s0,hs0⟩:∃s,s=(.inl (i,d,L):St):=⟨_,rfl⟩;have HK:Hid (∀W,Cl 28 #[rdV (.slice At E.l.length ct) i z d (.slice B L.length cB) 0 0] W (rB W (.bool true))):=fun W=>zaO At E.l.length ct i z d B L.length cB 0 0 W
 have HX:=BX.new W (.slice At E.l.length ct) i z d (.slice B L.length cB) 0 0;have HB:=hO HX.1;have HW:Hid (WS E z w0 (.slice At E.l.length ct) W 2 (.slice B L.length cB) ((W.alloc (rdO (.slice At E.l.length ct) i z d (.slice B L.length cB) 0 0)).alloc rdZ) s0 i d B L.length cB 0 0):=by
  rw [hs0];exact WS.new h HX.2 (by rw [sA,sA];omega)
 have HBg:Hid (∀W,Rv E z w0 (.slice At E.l.length ct) W s0 i d B L.length cB 0 0->Cl 112 #[rdV (.slice At E.l.length ct) i z d (.slice B L.length cB) 0 0] W (rB W (.bool (bgn E i)))):=fun W h=>by
  rw [hs0] at h;exact zcx h.2.2.2.2.2 z d 0 hz
 have HKd:Hid (∀W,Rv E z w0 (.slice At E.l.length ct) W s0 i d B L.length cB 0 0->Cl 53 #[rdV (.slice At E.l.length ct) i z d (.slice B L.length cB) 0 0,.int .i64 0] W (rB W (.int .i64 (kdA E i)))):=fun W h=>by
  rw [hs0] at h;exact za2 h.2.2.2.2.2 z d 0 0 0 i (by omega) (by omega) hz
 have HS0:=hO hs0;have HF:Hid (∀W,Rv E z w0 (.slice At E.l.length ct) W s0 i d B L.length cB 0 0->Cl 32 #[rdV (.slice At E.l.length ct) i z d (.slice B L.length cB) 0 0,.int .i64 60] W (rB W (rdV (.slice At E.l.length ct) i z d (.slice B L.length cB) (plA E z i) 60))):=fun W h=>by
  rw [hs0] at h;exact zbj h.2.2.2.2.2 z d 0 60
 obtain ⟨pl,hpl⟩:∃x,x=plA E z i:=⟨_,rfl⟩;rw [<-hpl] at HF;have HPL:=hO hpl;clear hpl;clear hs0 HX h hE hlen hz hi HKd;go_enter Tryz.func111,Tryz.ntmps111;go_wp2_with fail;generalize (W.alloc (rdO (.slice At E.l.length ct) i z d (.slice B L.length cB) 0 0)).alloc rdZ=w1 at *;refine (HK _).mono ?_;rintro e w2 ⟨rfl,hb⟩;have HB2:=hO (HB.later hb);have HW2:=hO (HW.later hb);clear hb HK HW HB;obtain ⟨k0,k1,k2,k3,k4,k5,k6⟩:=HB2.s.cl;go_wp2_with fail;rw [hb] at HBg;refine (HBg _ HW2.rv).mono ?_;rintro e w3 ⟨rfl,hb⟩;have HB3:=hO (HB2.later hb);have HW3:=hO (HW2.later hb);clear hb HBg HW2 HB2 k0 k1 k2 k3 k4 k5 k6;obtain ⟨k0,k1,k2,k3,k4,k5,k6⟩:=HB3.s.cl;go_wp2_with fail;refine (HF _ HW3.rv).mono ?_;rintro e w4 ⟨rfl,hb⟩;have HB4:=hO (HB3.later hb);have HW4:=hO (HW3.later hb);clear hb HF HW3 HB3 k0 k1 k2 k3 k4 k5 k6;obtain ⟨k0,k1,k2,k3,k4,k5,k6⟩:=HB4.r.cl;obtain ⟨f0,f1,f2,f3,f4,f5,f6⟩:=HB4.r.fzs;go_wp2_with fail;refine zaU (s:=2) rfl rfl rfl (zaF HB4.r _ _ _ _ _ _ _) ?_;exact ⟨_,_,_,_,_,_,_,rfl,⟨rfl,HPL.out,by show (60:Int)≠0;decide,((HW4.st7 (by omega) (by omega) _ _ _ _ _ _ _).bl)⟩,(HW4.st7 (by omega) (by omega) _ _ _ _ _ _ _).fd.weak⟩
theorem zl9 {E:PE} (hE:OkE E) {z:Nat} {w0:World} {tv:Value} {i d:Nat} {r:PR} (hb:bgn E i=true) (h8:¬kdA E i=8) (h9:¬kdA E i=9) (HS:Cd 140 E z w0 tv i d r) (hr:∀q,r=.inr q->q.2≠0) (W:World) (v:Value) (L:List Nd) (h:DS E w0 W tv i d v L) (hL:L.length<=10027010 * i):Calls Tryz.prog 111 #[rdV tv i z d v 0 0] W fun e W'=>PoD E z w0 tv d W v L r e W':=by
 have hi:=h.hi;have hlen:=hE.len;have hz:=hE.z;obtain ⟨B,cB,hv⟩:=zag h.o;subst hv;obtain ⟨At,ct,htv,_⟩:=h.tk;subst htv
 suffices Hm:Calls Tryz.prog 111 #[rdV (.slice At E.l.length ct) i z d (.slice B L.length cB) 0 0] W fun e W'=>Pu E z w0 (.slice At E.l.length ct) W (.slice B L.length cB) (.inl (i,d,L)) (stR d L r) e W' from Hm.mono fun _ _ hp=>hp.pod
 obtain ⟨s0,hs0⟩:∃s,s=(.inl (i,d,L):St):=⟨_,rfl⟩;have HK:Hid (∀W,Cl 28 #[rdV (.slice At E.l.length ct) i z d (.slice B L.length cB) 0 0] W (rB W (.bool true))):=fun W=>zaO At E.l.length ct i z d B L.length cB 0 0 W
 have HX:=BX.new W (.slice At E.l.length ct) i z d (.slice B L.length cB) 0 0;have HB:=hO HX.1;have HW:Hid (WS E z w0 (.slice At E.l.length ct) W 2 (.slice B L.length cB) ((W.alloc (rdO (.slice At E.l.length ct) i z d (.slice B L.length cB) 0 0)).alloc rdZ) s0 i d B L.length cB 0 0):=by
  rw [hs0];exact WS.new h HX.2 (by rw [sA,sA];omega)
 have HBg:Hid (∀W,Rv E z w0 (.slice At E.l.length ct) W s0 i d B L.length cB 0 0->Cl 112 #[rdV (.slice At E.l.length ct) i z d (.slice B L.length cB) 0 0] W (rB W (.bool (bgn E i)))):=fun W h=>by
  rw [hs0] at h;exact zcx h.2.2.2.2.2 z d 0 hz
 have HKd:Hid (∀W,Rv E z w0 (.slice At E.l.length ct) W s0 i d B L.length cB 0 0->Cl 53 #[rdV (.slice At E.l.length ct) i z d (.slice B L.length cB) 0 0,.int .i64 0] W (rB W (.int .i64 (kdA E i)))):=fun W h=>by
  rw [hs0] at h;exact za2 h.2.2.2.2.2 z d 0 0 0 i (by omega) (by omega) hz
 have HS0:=hO hs0;have HSu:Hid (∀W,Rv E z w0 (.slice At E.l.length ct) W s0 i d B L.length cB 0 0->Cl 140 #[rdV (.slice At E.l.length ct) i z d (.slice B L.length cB) 0 0] W fun e W'=>Pu E z w0 (.slice At E.l.length ct) W (.slice B L.length cB) s0 (stR d L r) e W'):=fun W h=>by
  rw [hs0] at h ⊢;exact (HS W _ L h.2.2.2.2.2 hL).mono fun _ _ hp=>hp.u hr
 rw [<-hs0];generalize stR d L r=s1 at *;have t8:(kdA E i != 8)=true:=by simpa using h8
 have t9:(kdA E i != 9)=true:=by simpa using h9
 clear hs0 HX h hE hlen hz hi HS hr hL h8 h9;generalize kdA E i=kk at *;go_enter Tryz.func111,Tryz.ntmps111;go_wp2_with fail;generalize (W.alloc (rdO (.slice At E.l.length ct) i z d (.slice B L.length cB) 0 0)).alloc rdZ=w1 at *;refine (HK _).mono ?_;rintro e w2 ⟨rfl,hb⟩;have HB2:=hO (HB.later hb);have HW2:=hO (HW.later hb);clear hb HK HW HB;obtain ⟨k0,k1,k2,k3,k4,k5,k6⟩:=HB2.s.cl;go_wp2_with fail;rw [hb] at HBg;refine (HBg _ HW2.rv).mono ?_;rintro e w3 ⟨rfl,hb⟩;have HB3:=hO (HB2.later hb);have HW3:=hO (HW2.later hb);clear hb HBg HW2 HB2 k0 k1 k2 k3 k4 k5 k6;obtain ⟨k0,k1,k2,k3,k4,k5,k6⟩:=HB3.s.cl;go_wp2_with fail;refine (HKd _ HW3.rv).mono ?_;rintro e w4 ⟨rfl,hb⟩;have HB4:=hO (HB3.later hb);have HW4:=hO (HW3.later hb);clear hb HKd HW3 HB3 k0 k1 k2 k3 k4 k5 k6;obtain ⟨k0,k1,k2,k3,k4,k5,k6⟩:=HB4.s.cl;go_wp2_with fail;refine (HSu _ HW4.rv).mono ?_;rintro e w5 ⟨i5,d5,A5,l5,c5,p5,q5,rfl,hr,hf⟩;have HB5:=hO (HB4.kept (HW4.keep hf));have HW5:=hO (HW4.call hr hf);clear hr hf HSu HW4 HB4 k0 k1 k2 k3 k4 k5 k6;obtain ⟨k0,k1,k2,k3,k4,k5,k6⟩:=HB5.r.cl;obtain ⟨f0,f1,f2,f3,f4,f5,f6⟩:=HB5.r.fzs;go_wp2_with fail;refine zaU (s:=2) rfl rfl rfl (zaF HB5.r _ _ _ _ _ _ _) ?_;rw [HS0.out];exact (HW5.st7 (by omega) (by omega) _ _ _ _ _ _ _).pu _
theorem zkB {E:PE} (hE:OkE E) {z:Nat} {w0:World} {tv:Value} {i d:Nat} {op:Int} (hop:op≠0) (hk:kdA E i=8/\op=12∨kdA E i=9/\op=13) (HP:Cd 111 E z w0 tv (i+1) (d+1) (gN E 4 (i+1) (d+1))) (W:World) (v:Value) (L:List Nd) (h:DS E w0 W tv i d v L) (hL:L.length<=10027010 * i):Calls Tryz.prog 111 #[rdV tv i z d v 0 0] W fun e W'=>PoD E z w0 tv d W v L (rA E i d op) e W':=by
 have hi:=h.hi;have hlen:=hE.len;have hz:=hE.z;obtain ⟨B,cB,hv⟩:=zag h.o;subst hv;obtain ⟨At,ct,htv,_⟩:=h.tk;subst htv
 suffices Hm:Calls Tryz.prog 111 #[rdV (.slice At E.l.length ct) i z d (.slice B L.length cB) 0 0] W fun e W'=>Pu E z w0 (.slice At E.l.length ct) W (.slice B L.length cB) (.inl (i,d,L)) (stR d L (rA E i d op)) e W' from Hm.mono fun _ _ hp=>hp.pod
 rw [<-ah_eq E i d L (nd0 op) hop op rfl];have hlt:i<E.l.length:=za6 (by omega);have hb:bgn E i=true:=by
  unfold bgn
  rcases hk with q | q <;> rw [q.1] <;> rfl
 obtain ⟨s0,hs0⟩:∃s,s=(.inl (i,d,L):St):=⟨_,rfl⟩;obtain ⟨s1,hs1⟩:∃s,s=opS s0:=⟨_,rfl⟩;obtain ⟨s2,hs2⟩:∃s,s=upS s1:=⟨_,rfl⟩;obtain ⟨s3,hs3⟩:∃s,s=gnS E 4 s2:=⟨_,rfl⟩;obtain ⟨s5,hs5⟩:∃s,s=dnS s3:=⟨_,rfl⟩;obtain ⟨s6,hs6⟩:∃s,s=zgk (nd0 op) s5:=⟨_,rfl⟩;have F1:∀s,s1=.inl s->s=(i,d+1,L):=fun s e=>by rw [hs1,hs0] at e;exact (zky e).2
 have F2:∀s,s2=.inl s->s=(i+1,d+1,L):=fun s e=>by
  rw [hs2] at e;obtain ⟨t,e1,e2⟩:=zkw e;rw [e2,F1 _ e1]
 have F4:∀s,s3=.inl s->s.2.1=d+1/\s.2.2.length+1<=2000000000000:=fun s e=>by
  rw [hs3] at e;obtain ⟨t2,a,ns,e3,e4,e5⟩:=zkz e;have e6:=F2 _ e3;subst e6 e5;have h1:=(zbW hE.rl (i:=i+1) (by omega) (by omega) e4).2;have h2:=(zbM (i:=i+1) (by omega) (by omega) e4).2.1;refine ⟨rfl,?_⟩
  show (L++ns).length+1<=_
  rw [lA];omega
 have H1:Hid (∀s,s1=.inl s->s.1<E.l.length):=fun s e=>by rw [F1 s e];exact hlt
 have H4:Hid (∀s,s3=.inl s->0<s.2.1):=fun s e=>by rw [(F4 s e).1];omega
 have HK:Hid (∀W,Cl 28 #[rdV (.slice At E.l.length ct) i z d (.slice B L.length cB) 0 0] W (rB W (.bool true))):=fun W=>zaO At E.l.length ct i z d B L.length cB 0 0 W
 have HX:=BX.new W (.slice At E.l.length ct) i z d (.slice B L.length cB) 0 0;have HB:=hO HX.1;have HW:Hid (WS E z w0 (.slice At E.l.length ct) W 2 (.slice B L.length cB) ((W.alloc (rdO (.slice At E.l.length ct) i z d (.slice B L.length cB) 0 0)).alloc rdZ) s0 i d B L.length cB 0 0):=by
  rw [hs0];exact WS.new h HX.2 (by rw [sA,sA];omega)
 have HBg:Hid (∀W,Rv E z w0 (.slice At E.l.length ct) W s0 i d B L.length cB 0 0->Cl 112 #[rdV (.slice At E.l.length ct) i z d (.slice B L.length cB) 0 0] W (rB W (.bool (bgn E i)))):=fun W h=>by
  rw [hs0] at h;exact zcx h.2.2.2.2.2 z d 0 hz
 have HKd:Hid (∀W,Rv E z w0 (.slice At E.l.length ct) W s0 i d B L.length cB 0 0->Cl 53 #[rdV (.slice At E.l.length ct) i z d (.slice B L.length cB) 0 0,.int .i64 0] W (rB W (.int .i64 (kdA E i)))):=fun W h=>by
  rw [hs0] at h;exact za2 h.2.2.2.2.2 z d 0 0 0 i (by omega) (by omega) hz
 have HS0:=hO hs0;have HOp:Hid (∀(W:World) (i d:Int) (A:Option Addr) (l c:Nat) (p q:Int),Rv E z w0 (.slice At E.l.length ct) W s0 i d A l c p q->Cl 141 #[rdV (.slice At E.l.length ct) i z d (.slice A l c) p q] W fun e W'=>Pu E z w0 (.slice At E.l.length ct) W (.slice A l c) s0 s1 e W'):=fun W i d A l c p q h=>by rw [hs1];exact zmZ h ⟨_,hs0⟩
 have HPr:Hid (∀(W:World) (i d:Int) (A:Option Addr) (l c:Nat) (p q:Int),Rv E z w0 (.slice At E.l.length ct) W s2 i d A l c p q->Cl 111 #[rdV (.slice At E.l.length ct) i z d (.slice A l c) p q] W fun e W'=>Pu E z w0 (.slice At E.l.length ct) W (.slice A l c) s2 s3 e W'):=fun W i' d' A l c p q h=>by
  rw [hs3];refine anyU (m:=4) (zoD At E.l.length ct) h (by decide) fun s e=>?_
  rw [F2 s e];exact ⟨HP,by show L.length<=10027010 * (i+1);omega⟩
 have HPu:Hid (∀(W:World) (i d:Int) (A:Option Addr) (l c:Nat) (p q:Int),Rv E z w0 (.slice At E.l.length ct) W s5 i d A l c p q->Cl 83 #[rdV (.slice At E.l.length ct) i z d (.slice A l c) p q,T.ndG (nd0 op)] W fun e W'=>Pu E z w0 (.slice At E.l.length ct) W (.slice A l c) s5 s6 e W'):=fun W i d A l c p q h=>by
  rw [hs6];refine putU h (nd0 op) fun s e=>?_
  rw [hs5] at e;obtain ⟨t,e1,e2⟩:=zkx e;rw [e2];exact (F4 _ e1).2
 rw [<-hs0,<-hs1,<-hs2,<-hs3,<-hs5,<-hs6];have HS2:Hid (upS s1=s2):=hs2.symm;have HS5:Hid (dnS s3=s5):=hs5.symm;have HZ:Hid (E.l.length<=1000000):=hz;rw [hb] at HBg;clear hs0 hs1 hs2 hs3 hs5 hs6 F1 F2 F4 HX h hL HP hE hlt hlen hz hi hb hop
 rcases hk with ⟨hk,rfl⟩ | ⟨hk,rfl⟩
 all_goals
  rw [hk] at HKd;clear hk;go_enter Tryz.func111,Tryz.ntmps111;go_wp2_with fail;generalize (W.alloc (rdO (.slice At E.l.length ct) i z d (.slice B L.length cB) 0 0)).alloc rdZ=w1 at *;refine (HK _).mono ?_;rintro e w2 ⟨rfl,hb⟩;have HB2:=hO (HB.later hb);have HW2:=hO (HW.later hb);clear hb HK HW HB;obtain ⟨k0,k1,k2,k3,k4,k5,k6⟩:=HB2.s.cl;go_wp2_with fail;refine (HBg _ HW2.rv).mono ?_;rintro e w3 ⟨rfl,hb⟩;have HB3:=hO (HB2.later hb);have HW3:=hO (HW2.later hb);clear hb HBg HW2 HB2 k0 k1 k2 k3 k4 k5 k6;obtain ⟨k0,k1,k2,k3,k4,k5,k6⟩:=HB3.s.cl;go_wp2_with fail;refine (HKd _ HW3.rv).mono ?_;rintro e w4 ⟨rfl,hb⟩;have HB4:=hO (HB3.later hb);have HW4:=hO (HW3.later hb);clear hb HKd HW3 HB3 k0 k1 k2 k3 k4 k5 k6;obtain ⟨k0,k1,k2,k3,k4,k5,k6⟩:=HB4.s.cl;go_wp2_with fail;refine (HOp _ _ _ _ _ _ _ _ HW4.rv).mono ?_;rintro e w5 ⟨i5,d5,A5,l5,c5,p5,q5,rfl,hr,hf⟩;have HB5:=hO (HB4.kept (HW4.keep hf));have HW5:=hO (HW4.call hr hf);clear hr hf HOp HW4 HB4 k0 k1 k2 k3 k4 k5 k6;obtain ⟨k0,k1,k2,k3,k4,k5,k6⟩:=HB5.s.cl;obtain ⟨f0,f1,f2,f3,f4,f5,f6⟩:=HB5.s.fzs
  obtain ⟨v5,hv5⟩:∃w,(((((((w5.setCell ⟨W.heap.size,0,none⟩ (.slice At E.l.length ct)).setCell ⟨W.heap.size,1,none⟩ (.int .i64 i5)).setCell ⟨W.heap.size,2,none⟩ (.int .i64 z)).setCell ⟨W.heap.size,3,none⟩ (.int .i64 d5)).setCell ⟨W.heap.size,4,none⟩ (.slice A5 l5 c5)).setCell ⟨W.heap.size,5,none⟩ (.int .i64 p5)).setCell ⟨W.heap.size,6,none⟩ (.int .i64 q5))=w:=⟨_,rfl⟩;have HBs:Hid (BX W.heap.size v5 (.slice At E.l.length ct) i5 z d5 (.slice A5 l5 c5) p5 q5):=by rw [<-hv5];exact HB5.st _ _ _ _ _ _ _
  have HWs:Hid (WS E z w0 (.slice At E.l.length ct) W 2 (.slice B L.length cB) v5 s1 i5 d5 A5 l5 c5 p5 q5):=by rw [<-hv5];exact HW5.st7 (nL _) (by omega) _ _ _ _ _ _ _
  have HEs:=hO hv5;obtain ⟨h0,h1,h2,h3,h4,h5,h6⟩:=HBs.s.cl;obtain ⟨g0,g1,g2,g3,g4,g5,g6⟩:=HBs.s.fzs;clear hv5 HB5 HW5;obtain ⟨j2,hj2⟩:∃j,IntKind.i64.wrap (i5+1)=j:=⟨_,rfl⟩;go_wp2_with (rw [HEs.out])
  have HB6:=hO (HBs.s1 j2);have HW6:=hO ((HWs.set (nL _) (by omega) 1 (.int .i64 j2)).up H1.out HZ.out);rw [HS2.out,hj2] at HW6;clear hj2 HBs HWs HEs k0 k1 k2 k3 k4 k5 k6 f0 f1 f2 f3 f4 f5 f6 h0 h1 h2 h3 h4 h5 h6 g0 g1 g2 g3 g4 g5 g6;refine (HPr _ _ _ _ _ _ _ _ HW6.rv).mono ?_;rintro e w7 ⟨i7,d7,A7,l7,c7,p7,q7,rfl,hr,hf⟩;have HB7:=hO (HB6.kept (HW6.keep hf));have HW7:=hO (HW6.call hr hf);clear hr hf HPr HW6 HB6;obtain ⟨k0,k1,k2,k3,k4,k5,k6⟩:=HB7.s.cl;obtain ⟨f0,f1,f2,f3,f4,f5,f6⟩:=HB7.s.fzs;obtain ⟨v7,hv7⟩:∃w,(((((((w7.setCell ⟨W.heap.size,0,none⟩ (.slice At E.l.length ct)).setCell ⟨W.heap.size,1,none⟩ (.int .i64 i7)).setCell ⟨W.heap.size,2,none⟩ (.int .i64 z)).setCell ⟨W.heap.size,3,none⟩ (.int .i64 d7)).setCell ⟨W.heap.size,4,none⟩ (.slice A7 l7 c7)).setCell ⟨W.heap.size,5,none⟩ (.int .i64 p7)).setCell ⟨W.heap.size,6,none⟩ (.int .i64 q7))=w:=⟨_,rfl⟩;have HBs:Hid (BX W.heap.size v7 (.slice At E.l.length ct) i7 z d7 (.slice A7 l7 c7) p7 q7):=by rw [<-hv7];exact HB7.st _ _ _ _ _ _ _
  have HWs:Hid (WS E z w0 (.slice At E.l.length ct) W 2 (.slice B L.length cB) v7 s3 i7 d7 A7 l7 c7 p7 q7):=by rw [<-hv7];exact HW7.st7 (nL _) (by omega) _ _ _ _ _ _ _
  have HEs:=hO hv7;obtain ⟨h0,h1,h2,h3,h4,h5,h6⟩:=HBs.s.cl;obtain ⟨g0,g1,g2,g3,g4,g5,g6⟩:=HBs.s.fzs;clear hv7 HB7 HW7;obtain ⟨j6,hj6⟩:∃j,IntKind.i64.wrap (d7 - 1)=j:=⟨_,rfl⟩;go_wp2_with (rw [HEs.out])
  have HB8:=hO (HBs.s3 j6);have HW8:=hO ((HWs.set (nL _) (by omega) 3 (.int .i64 j6)).dn H4.out);rw [HS5.out,hj6] at HW8;clear hj6 HBs HWs HEs k0 k1 k2 k3 k4 k5 k6 f0 f1 f2 f3 f4 f5 f6 h0 h1 h2 h3 h4 h5 h6 g0 g1 g2 g3 g4 g5 g6;refine (HPu _ _ _ _ _ _ _ _ HW8.rv).mono ?_;rintro e w9 ⟨i9,d9,A9,l9,c9,p9,q9,rfl,hr,hf⟩;have HB9:=hO (HB8.kept (HW8.keep hf));have HW9:=hO (HW8.call hr hf);clear hr hf HPu HW8 HB8;obtain ⟨k0,k1,k2,k3,k4,k5,k6⟩:=HB9.r.cl;obtain ⟨f0,f1,f2,f3,f4,f5,f6⟩:=HB9.r.fzs;go_wp2_with fail;refine zaU (s:=2) rfl rfl rfl (zaF HB9.r _ _ _ _ _ _ _) ?_;rw [HS0.out];exact (HW9.st7 (by omega) (by omega) _ _ _ _ _ _ _).pu _
theorem zhL {E:PE} (hE:OkE E) {z:Nat} {w0:World} {tv:Value} {i d:Nat} (HP:i<E.l.length->Cd 111 E z w0 tv (i+1) (d+1) (gN E 4 (i+1) (d+1))) (HS:bgP E i=true->Cd 140 E z w0 tv i d (gS E i d)):Cd 111 E z w0 tv i d (gN E 4 i d):=by
 intro W v L h hL;have HG:=g4 E i d h.hi;by_cases c8:kdA E i=8
 ·have hV:gN E 4 i d=rA E i d 12:=by
   rw [HG,iP (by unfold bgn;rw [c8];rfl),iP (.inl c8),show (if kdA E i=8 then (12:Int) else 13)=12 from iP c8];rfl
  rw [hV];exact zkB hE (by decide) (.inl ⟨c8,rfl⟩) (HP (za6 (by omega))) W v L h hL
 by_cases c9:kdA E i=9
 ·have hV:gN E 4 i d=rA E i d 13:=by
   rw [HG,iP (by unfold bgn;rw [c9];rfl),iP (.inr c9),show (if kdA E i=8 then (12:Int) else 13)=13 from iN c8];rfl
  rw [hV];exact zkB hE (by decide) (.inr ⟨c9,rfl⟩) (HP (za6 (by omega))) W v L h hL
 have hbP:bgn E i=bgP E i:=by rw [zhs,bF c8,bF c9];rfl
 by_cases hb:bgn E i=true
 ·have hV:gN E 4 i d=gS E i d:=by
   rw [HG,hbP,iN (by omega:¬(kdA E i=8∨kdA E i=9))];rfl
  have h1:=zl9 hE hb c8 c9 (HS (hbP▸hb)) (fun q hq=>by
   rw [<-hV] at hq;have:=(zbz h.hi (by omega) hq).2;omega) W v L h hL
  rw [hV];exact h1
 ·rw [HG,iN hb]
  exact zoG hE (Bool.eq_false_iff.2 hb) W v L h
end Go.Proofs.YtkihfkcmcdiajaaGreatDoor.N
namespace Go.Proofs.YtkihfkcmcdiajaaGreatDoor.R
open Go.RowKit
theorem RR.base {W:World} {A B:Nat} {v:Value} {ss:List zaX} {xs:List Value} (h:RR W B v ss xs) (hab:A<=B):RR W A v ss xs :=
 ⟨zbx h.o hab,h.len,fun i x s hx hs=>⟨zbx (h.each i x s hx hs).1 hab,(h.each i x s hx hs).2⟩,h.apart⟩
structure Under (N:Nat) (v:Value) (xs:List Value):Prop where
 v:∀k,v.ownBlock=some k->k<N
 x:∀(i:Nat) y k,xs[i]?=some y->y.ownBlock=some k->k<N
theorem RR.under {W:World} {B:Nat} {v:Value} {ss:List zaX} {xs:List Value} (h:RR W B v ss xs):Under W.heap.size v xs :=
 ⟨fun k e=>(h.o.lt k e).2,fun i y k hy e=>by obtain ⟨g,hg,_,hlt⟩:=h.lt hy;rw [hg] at e;cases e;exact hlt⟩
theorem zfL {α:Type} {a b:List α} {i:Nat} {x:α} (h:(a++b)[i]?=some x):(i<a.length/\a[i]?=some x)∨(a.length<=i/\b[i - a.length]?=some x):=by
 by_cases q:i<a.length
 ·rw [List.getElem?_append_left q] at h;exact .inl ⟨q,h⟩
 ·rw [List.getElem?_append_right (by omega)] at h;exact .inr ⟨by omega,h⟩
theorem RR.join {W W1:World} {B N:Nat} {v v2 v':Value} {ss ss2:List zaX} {xs xs2:List Value} (h:RR W B v ss xs) (hu:Under N v xs) (h2:RR W N v2 ss2 xs2) (hBN:B<=N)
  (hown:W1.ownsRow B 130 1 v' (xs.length+xs2.length) (xs++xs2)) (hgrow:W.grownBy W1 v.ownBlock) (hat:∀k,v'.ownBlock=some k->v.ownBlock=some k∨W.heap.size<=k):RR W1 B v' (ss++ss2) (xs++xs2):=by
 have hne:∀(x:Value) k,x.ownBlock=some k->k<W.heap.size->x.ownBlock≠v.ownBlock->x.ownBlock≠v'.ownBlock:=fun x k hk hlt hv e=>by
  rcases hat k (by rw [<-e];exact hk) with q | q
  ·exact hv (by rw [hk,q])
  ·omega
 have hfar:∀(i:Nat) y,xs2[i]?=some y->∃k,y.ownBlock=some k/\N<=k/\k<W.heap.size:=fun i y hy=>h2.lt hy
 refine ⟨by rw [lA];exact hown,by rw [lA,lA,h.len,h2.len],?_,?_⟩
 ·intro i x t hx ht
  rcases zfL hx with ⟨hi,hx⟩ | ⟨hi,hx⟩
  ·rw [List.getElem?_append_left (by rw [<-h.len];exact hi)] at ht
   obtain ⟨e1,e2,e3⟩:=h.each i x t hx ht;obtain ⟨k,hk,_,hlt⟩:=h.lt hx;exact ⟨e1.kept hgrow (.inr e3),e2,hne x k hk hlt e3⟩
  ·rw [List.getElem?_append_right (by rw [<-h.len];exact hi),<-h.len] at ht
   obtain ⟨e1,e2,_⟩:=h2.each _ x t hx ht;obtain ⟨k,hk,hNk,hlt⟩:=hfar _ x hx;have e3:x.ownBlock≠v.ownBlock:=fun e=>by have:=hu.v k (by rw [<-e];exact hk);omega
   exact ⟨zbx (e1.kept hgrow (.inr e3)) hBN,e2,hne x k hk hlt e3⟩
 ·intro i j x z hx hz hij
  rcases zfL hx with ⟨hi,hx⟩ | ⟨hi,hx⟩
  ·rcases zfL hz with ⟨hj,hz⟩ | ⟨hj,hz⟩
   ·exact h.apart i j x z hx hz hij
   ·obtain ⟨k,hk,hNk,_⟩:=hfar _ z hz
    intro e;have:=hu.x i x k hx (by rw [e];exact hk);omega
  ·rcases zfL hz with ⟨hj,hz⟩ | ⟨hj,hz⟩
   ·obtain ⟨k,hk,hNk,_⟩:=hfar _ x hx
    intro e;have:=hu.x j z k hz (by rw [<-e];exact hk);omega
   ·exact h2.apart _ _ x z hx hz (by omega)
theorem zfM (w:World) {B N:Nat} {v v2:Value} {ss ss2:List zaX} {xs xs2:List Value} (ty:TypeId) (h:RR w B v ss xs) (hu:Under N v xs) (h2:RR w N v2 ss2 xs2) (hBN:B<=N) (hN:N<=w.heap.size) (hl:ss.length+ss2.length<=4000000) :
  ∃v' w',(Builtin.append_ #[173,173] ty #[v,v2]).run Tryz.prog w=.ok v' w'/\RR w' B v' (ss++ss2) (xs++xs2)/\w.grownBy w' v.ownBlock/\∀k,v'.ownBlock=some k->v.ownBlock=some k∨w.heap.size<=k:=by
 obtain ⟨i0,hinf,hz0,hz1,hz2⟩:=info_parts Tryz.info54;have hlx:=h.len;have hlx2:=h2.len
 rcases h2.o.2 with ⟨rfl,h0⟩ | ⟨g2,c2,cur,rfl,_⟩
 ·have hnil:xs2=[]:=List.eq_nil_of_length_eq_zero h0
  subst hnil;have hss:ss2=[]:=List.eq_nil_of_length_eq_zero (by rw [<-h2.len];rfl);subst hss;have hr:=run_append_owned_none (P:=Tryz.prog) w B 173 ty 130 i0 1 Tryz.underlying173 hinf v xs.length xs h.o;exact ⟨v,w,hr,by rw [List.append_nil,List.append_nil];exact h,World.grownBy.refl _ _,fun k e=>.inl e⟩
 ·have hc:=h2.o.cells (g:=g2) rfl
  have h1c:∀u∈xs2,u.oneCell'=true:=fun u hu2=>by
   obtain ⟨i,hi,rfl⟩:=List.getElem_of_mem hu2;obtain ⟨e1,e2,_⟩:=h2.each i _ _ (gE hi) (gE (by rw [<-hlx2];exact hi))
   rcases e1.2 with ⟨q,_⟩ | ⟨_,_,_,q,_⟩
   ·rw [q] at e2;exact absurd rfl e2
   ·rw [q];rfl
  obtain ⟨v',w',hr,ho,hg,_,hat⟩:=run_append_own_at (P:=Tryz.prog) w B 173 ty 130 i0 (.slice none 0 0) 1 24 Tryz.underlying173 hinf hz0 hz1 hz2 rfl (by decide) v xs.length xs h.o ⟨g2,0,none⟩ xs2.length c2 xs2 (by omega) hc h1c (by unfold maxLen;omega) (by omega) (by omega);have hat2:∀k,v'.ownBlock=some k->v.ownBlock=some k∨w.heap.size<=k:=fun k e=>by
   rcases hat with q | q
   ·exact .inl (by rw [<-q];exact e)
   ·rw [q] at e;cases e;exact .inr (nL _)
  exact ⟨v',w',hr,h.join hu h2 hBN ho hg hat2,hg,hat2⟩
theorem zd2 {w:World} {o:Oper} {a:Act} {K:Act->World->Prop} {Q:Exit->Act->World->Prop} (s x:Operand)
  (ho:o.op=.call { callee:=.builtin .append,args:=#[s,x],argTypes:=#[173,173] }) {B N:Nat} {v v2:Value} {ss ss2:List zaX} {xs xs2:List Value} (hs:a.eval s=v) (hx:a.eval x=v2)
  (h:RR w B v ss xs) (hu:Under N v xs) (h2:RR w N v2 ss2 xs2) (hBN:B<=N) (hN:N<=w.heap.size) (hl:ss.length+ss2.length<=4000000)
  (hk:∀v' w',RR w' B v' (ss++ss2) (xs++xs2)->w.grownBy w' v.ownBlock->(∀k,v'.ownBlock=some k->v.ownBlock=some k∨w.heap.size<=k)->K (a.put o.dst v') w'):o.wp Tryz.prog a w K Q:=by
 obtain ⟨v',w',hr,h3,h4,h5⟩:=zfM w o.type h hu h2 hBN hN hl;unfold Oper.wp execOp;simp only [ho,resolve,invoke,builtin,Sem.run_bind,Sem.run_pure,Result.andThen_ok,List.map_toArray,List.map_cons,List.map_nil,hs,hx,hr];exact hk v' w' h3 h4 h5
theorem zcz {w:World} {ops:Array Oper} {rest:List Oper} {o:Oper} {a:Act} {Q:Exit->Act->World->Prop} (hgd:o.guard=none) (s x:Operand)
  (ho:o.op=.call { callee:=.builtin .append,args:=#[s,x],argTypes:=#[173,173] }) {B N:Nat} {v v2:Value} {ss ss2:List zaX} {xs xs2:List Value} (hs:a.eval s=v) (hx:a.eval x=v2)
  (h:RR w B v ss xs) (hu:Under N v xs) (h2:RR w N v2 ss2 xs2) (hBN:B<=N) (hN:N<=w.heap.size) (hl:ss.length+ss2.length<=4000000)
  (hk:∀v' w',RR w' B v' (ss++ss2) (xs++xs2)->w.grownBy w' v.ownBlock->(∀k,v'.ownBlock=some k->v.ownBlock=some k∨w.heap.size<=k)->wpList Tryz.prog ops Q rest (a.put o.dst v') w'):wpList Tryz.prog ops Q (o::rest) a w :=
 wpList_plain hgd fun _ hK=>zd2 s x ho hs hx h hu h2 hBN hN hl fun v' w' h3 h4 h5=>hK _ _ (hk v' w' h3 h4 h5)
theorem zeU {w:World} {ops:Array Oper} {o:Oper} {a:Act} {K:Act->World->Prop} {Q:Exit->Act->World->Prop} {E:Prop} (hgd:o.guard=none) (s x:Operand)
  (ho:o.op=.call { callee:=.builtin .append,args:=#[s,x],argTypes:=#[173,173] }) {B N:Nat} {v v2:Value} {ss ss2:List zaX} {xs xs2:List Value} (hs:a.eval s=v) (hx:a.eval x=v2)
  (h:RR w B v ss xs) (hu:Under N v xs) (h2:RR w N v2 ss2 xs2) (hBN:B<=N) (hN:N<=w.heap.size) (hl:ss.length+ss2.length<=4000000)
  (hk:∀v' w',RR w' B v' (ss++ss2) (xs++xs2)->w.grownBy w' v.ownBlock->(∀k,v'.ownBlock=some k->v.ownBlock=some k∨w.heap.size<=k)->K (a.put o.dst v') w') :
  if Region.wanted o (yielded ops a.tmps)=true then Oper.wp Tryz.prog o a w K Q else E:=by
 have hw:Region.wanted o (yielded ops a.tmps)=true:=by simp [Region.wanted,hgd]
 rw [iP hw];exact zd2 s x ho hs hx h hu h2 hBN hN hl hk
def PcS (lo hi:Int):Prop:=∀w:World,Calls Tryz.prog 192 #[.int .i64 lo,.int .i64 hi] w fun e w'=>(∃v xs,e=.returned v/\RR w' w.heap.size v (shs lo hi) xs)/\Below w.heap.size w w'
structure AtE (w wr:World) (v:Value) (s:zaX):Prop where
 o:wr.ownsRow w.heap.size 133 2 v s.length (spc s)
 b:Below w.heap.size w wr
theorem RR.one {W:World} {B:Nat} {y:Value} {s:zaX} (hB:B<=W.heap.size) (hy:W.ownsRow B 133 2 y s.length (spc s)) (hs:0<s.length):RR (W.alloc (.cells #[y] 130)) B (.slice (some ⟨W.heap.size,0,none⟩) 1 1) [s] [y]:=by
 obtain ⟨g,cap,hg,_,hlt⟩:=hy.form hs;refine ⟨⟨rfl,.inr ⟨W.heap.size,1,#[y],rfl,hB,heap_alloc_new W _,nL _,by unfold maxLen;omega,rfl,rfl⟩⟩,rfl,?_,?_⟩
 ·intro i x t hx ht
  match i,hx,ht with
  | 0,hx,ht =>
   cases hx
   cases ht
   refine ⟨hy.alloc _,by rw [hg];simp [Value.ownBlock],?_⟩;rw [hg];intro e;have e2:g=W.heap.size:=Option.some.inj e;omega
 ·intro i j x z hx hz hij
  match i,j,hx,hz with
  | 0,0,_,_=>exact absurd rfl hij
theorem zeG (lo hi:Int) (h:Blk lo hi) (hc:∀c,zdm lo hi=some c->PcS lo (c - 1)/\PcS c hi):PcS lo hi:=by
 intro w;obtain ⟨i0,hinf,hz0,hz1,hz2⟩:=info_parts Tryz.info56;have h0:=h.cpl.2.2.2.1;have h1:=h.cpl.2.2.2.2.1;have h2:=h.cpl.2.2.2.2.2;have HSz:Hid (∀w,Cl 197 #[.int .i64 lo] w (rU w (.int .i64 (szI lo:Int)))):=fun w=>zcI lo w
 have hsz:=zew lo;have HC1:Hid (∀w,Cl 198 #[.int .i64 lo] w (rB w (.string (Utf8.encode lo)))):=fun w=>zf6 lo h.cpl.1 w
 have HC2:Hid (∀w,Cl 198 #[.int .i64 hi] w (rB w (.string (Utf8.encode hi)))):=fun w=>zf6 hi h.cpl.2.1 w
 have HG:Hid (∀k,k<szI lo->(shp (lo,hi)).take (k+1)=(shp (lo,hi)).take k++[(chr (Utf8.encode lo) k,chr (Utf8.encode hi) k)]):=fun k hk=>zhw h k hk
 have HL:Hid ((shp (lo,hi)).length=szI lo):=zft h;have HX:Hid ((Utf8.encode lo).size=szI lo/\(Utf8.encode hi).size=szI lo):=⟨zee h.cpl.1,by rw [zee h.cpl.2.1,<-h.cpl.2.2.1]⟩;have HN:Hid (zdm lo hi=none->shs lo hi=[shp (lo,hi)]):=fun e=>zhu e
 have HS:Hid (∀c,zdm lo hi=some c->(lo<c/\c<=hi)/\shs lo hi=shs lo (c - 1)++shs c hi/\PcS lo (c - 1)/\PcS c hi):=fun c e=>⟨zbp h0 h1 e,zhv h0 h1 e,hc c e⟩
 generalize hR:zdm lo hi=R at *;have HR:Hid (zcA lo hi (szI lo - 1) 1=R):=hR;generalize szI lo=K at *;generalize Utf8.encode lo=X at *;generalize Utf8.encode hi=Y at *;generalize shp (lo,hi)=S at *;clear hR h hc;have hnl:decide (hi<lo)=false:=dF (by omega);go_enter Tryz.func192,Tryz.ntmps192;go_wp2_with fail;go_loopw [5,6] (fun t u wr=>∃k:Nat,∃m:Int,t=.int .i64 m/\u=.int .i64 k/\(1<=k/\k<=K)/\Hid ((k=1/\m=1)∨(k=2/\m=64)∨(k=3/\m=4096)∨k=4)/\Hid (zcA lo hi (K - k) m=R)/\Hid (Below w.heap.size w wr)) (fun _ u _=>5 - (intOf u).toNat)
 case atStart=>exact ⟨1,1,rfl,rfl,by omega,.inl ⟨rfl,rfl⟩,HR,bR _ _⟩
 case round =>
  obtain ⟨k,m,rfl,rfl,⟨hk1,hk2⟩,HM,HK,HW⟩:=hrel;clear HR;by_cases hlt:k<K
  ·have hlt2:(k:Int)<(K:Int):=by omega
   obtain ⟨m',hm',hmm⟩:∃m':Int,m'=m * 64/\(m'=64∨m'=4096∨m'=262144):=⟨_,rfl,by have e:=HM.out;omega⟩;have HM2:Hid ((k+1=1/\m'=1)∨(k+1=2/\m'=64)∨(k+1=3/\m'=4096)∨k+1=4):=(by show _∨_;have e:=HM.out;omega)
   have hwm:IntKind.i64.wrap (m * 64)=m':=by rw [<-hm',wI];rcases hmm with rfl | rfl | rfl <;> rfl
   have HKn:=(show Hid (zb8 lo hi m'=none->zcA lo hi (K - (k+1)) m'=R) from fun e=>by
    have e2:=HK.out;rw [hm'] at e;rw [show K - k=(K - (k+1))+1 from by omega,ze5 e,<-hm'] at e2;exact e2)
   have HKs:=(show Hid (∀c,zb8 lo hi m'=some c->(lo<c/\c<=hi)/\shs lo hi=shs lo (c - 1)++shs c hi/\PcS lo (c - 1)/\PcS c hi) from fun c e=>by
    have e2:=HK.out;rw [hm'] at e;rw [show K - k=(K - (k+1))+1 from by omega,ze6 e] at e2;exact HS c e2.symm)
   have hpos:0<m'/\m'<=262144:=by omega
   have hm0:m'≠0:=by omega
   have q1:lo.tdiv m'=lo / m':=Int.tdiv_eq_ediv_of_nonneg h0;have q2:hi.tdiv m'=hi / m':=Int.tdiv_eq_ediv_of_nonneg (by omega);have q3:lo.tmod m'=lo%m':=Int.tmod_eq_emod_of_nonneg h0;have q4:(hi+1).tmod m'=(hi+1)%m':=Int.tmod_eq_emod_of_nonneg (by omega)
   have b1:0<=lo / m'/\lo / m'<=lo:=by rcases hmm with rfl | rfl | rfl <;> omega
   have b2:0<=hi / m'/\hi / m'<=hi:=by rcases hmm with rfl | rfl | rfl <;> omega
   have b3:0<=lo%m'/\lo%m'<m':=by rcases hmm with rfl | rfl | rfl <;> omega
   have b4:0<=(hi+1)%m'/\(hi+1)%m'<m':=by rcases hmm with rfl | rfl | rfl <;> omega
   have HSq:Hid (zb8 lo hi m'=if lo / m'=hi / m' then none else if lo%m'≠0 then some ((lo / m'+1) * m') else if (hi+1)%m'≠0 then some (hi / m' * m') else none):=rfl;clear hm' HK HM hmm HS HN HG HL HX HC1 HC2;generalize lo / m'=a at *;generalize hi / m'=b at *;generalize lo%m'=x at *;generalize (hi+1)%m'=y at *;go_wp2_with fail;refine (HSz _).mono ?_;rintro e w0 ⟨rfl,rfl⟩;go_wp2_with fail;go_quiet (fail)
   have HW1:Hid (Below w.heap.size w (w0.drewN nq)):=HW.trans (below_drewN (bR _ _) _);generalize w0.drewN nq=w1 at *;clear HW HSz;by_cases hab:a=b
   ·have HN:=hO (HKn (by rw [HSq.out,iP hab]))
    clear HKn HKs HSq;subst hab;go_wp2
    go_roundw
    case rel=>exact ⟨k+1,m',by go_num,by go_num,by omega,HM2,HN,HW1⟩
    case measure=>simp [intOf];omega
   ·have eab:(a==b)=false:=bF hab
    by_cases hx:x=0
    ·have ex:(x != 0)=false:=by rw [hx];rfl
     by_cases hy:y=0
     ·have HN:=hO (HKn (by rw [HSq.out,iN hab,iN (by omega),iN (by omega)]))
      have ey:(y != 0)=false:=by rw [hy];rfl
      clear HKn HKs HSq hab hx hy;go_wp2
      go_roundw
      case rel=>exact ⟨k+1,m',by go_num,by go_num,by omega,HM2,HN,HW1⟩
      case measure=>simp [intOf];omega
     ·obtain ⟨⟨hb1,hb2⟩,hE,hP1,hP2⟩:=HKs (b * m') (by rw [HSq.out,iN hab,iN (by omega),iP hy])
      have ey:(y != 0)=true:=bne_iff_ne.2 hy;have HE:=hO hE;have HP1:=hO hP1;have HP2:=hO hP2;have v1:IntKind.i64.wrap (b * m')=b * m':=by rw [wI];omega
      have v2:IntKind.i64.wrap (b * m' - 1)=b * m' - 1:=by rw [wI];omega
      have hll1:=zdO (lo:=lo) (hi:=b * m' - 1) h0 (by omega);have hll2:=zdO (lo:=b * m') (hi:=hi) (by omega) hb2;have HLL:Hid ((shs lo (b * m' - 1)).length+(shs (b * m') hi).length<=4000000):=(by show _<=_;omega);clear HKn HKs HSq hab hx hy hE hP1 hP2 hll1 hll2;go_wp2_with fail;refine (HP1 _).mono ?_;rintro e w2 ⟨⟨u1,xs1,rfl,hR1⟩,hb2'⟩;have HR1:=hO hR1;have HB2:=hO hb2';clear hR1 hb2' HP1;go_wp2_with fail;refine (HP2 _).mono ?_;rintro e w3 ⟨⟨u2,xs2,rfl,hR2⟩,hb3⟩;have hR3:=HR1.below hb3;have hU:=HR1.under;have HB3:Hid (Below w.heap.size w w3):=HW1.trans ((HB2.mono HW1.size).trans (hb3.mono (Nat.le_trans HW1.size HB2.size)));have hz3:=hb3.size;have hz2:=HB2.size;have hz1:=HW1.size;clear hb3 HB2 HP2;go_wp2_with (at_builtin;refine zcz rfl _ _ rfl rfl rfl hR3 hU hR2 hz2 hz3 HLL.out ?_)
      intro v' w4 hR4 hg4 hk4;have HR4:Hid (RR w4 w.heap.size v' (shs lo hi) (xs1++xs2)):=(by rw [HE.out];exact hR4.base hz1);have HB4:Hid (Below w.heap.size w w4):=HB3.grown hg4 (by omega) (fun j e=>by have:=(HR1.o.lt j e).1;omega);clear hR4 hg4 hk4 hR2 hR3 hU HR1 HB3;go_wp2
      go_ret
      exact ⟨⟨_,_,rfl,HR4.out⟩,HB4.out⟩
    ·obtain ⟨⟨hb1,hb2⟩,hE,hP1,hP2⟩:=HKs ((a+1) * m') (by rw [HSq.out,iN hab,iP hx])
     have ex:(x != 0)=true:=bne_iff_ne.2 hx;have HE:=hO hE;have HP1:=hO hP1;have HP2:=hO hP2;have v1:IntKind.i64.wrap ((a+1) * m')=(a+1) * m':=by rw [wI];omega
     have v2:IntKind.i64.wrap ((a+1) * m' - 1)=(a+1) * m' - 1:=by rw [wI];omega
     have hll1:=zdO (lo:=lo) (hi:=(a+1) * m' - 1) h0 (by omega);have hll2:=zdO (lo:=(a+1) * m') (hi:=hi) (by omega) hb2;have HLL:Hid ((shs lo ((a+1) * m' - 1)).length+(shs ((a+1) * m') hi).length<=4000000):=(by show _<=_;omega);clear HKn HKs HSq hab hx hE hP1 hP2 hll1 hll2;go_wp2_with fail;refine (HP1 _).mono ?_;rintro e w2 ⟨⟨u1,xs1,rfl,hR1⟩,hb2'⟩;have HR1:=hO hR1;have HB2:=hO hb2';clear hR1 hb2' HP1;go_wp2_with fail;refine (HP2 _).mono ?_;rintro e w3 ⟨⟨u2,xs2,rfl,hR2⟩,hb3⟩;have hR3:=HR1.below hb3;have hU:=HR1.under;have HB3:Hid (Below w.heap.size w w3):=HW1.trans ((HB2.mono HW1.size).trans (hb3.mono (Nat.le_trans HW1.size HB2.size)));have hz3:=hb3.size;have hz2:=HB2.size;have hz1:=HW1.size;clear hb3 HB2 HP2;go_wp2_with (at_builtin;refine zcz rfl _ _ rfl rfl rfl hR3 hU hR2 hz2 hz3 HLL.out ?_)
     intro v' w4 hR4 hg4 hk4;have HR4:Hid (RR w4 w.heap.size v' (shs lo hi) (xs1++xs2)):=(by rw [HE.out];exact hR4.base hz1);have HB4:Hid (Below w.heap.size w w4):=HB3.grown hg4 (by omega) (fun j e=>by have:=(HR1.o.lt j e).1;omega);clear hR4 hg4 hk4 hR2 hR3 hU HR1 HB3;go_wp2
     go_ret
     exact ⟨⟨_,_,rfl,HR4.out⟩,HB4.out⟩
  ·have HE:=hO (HN (by have e:=HK.out;rw [show K - k=0 from by omega] at e;exact e.symm))
   obtain rfl:k=K:=by omega
   clear HK HM HS HN;have hX1:=HX.1;have hX2:=HX.2;clear HX;have hXi:(X.size:Int)=(k:Int):=by omega
   go_wp2_with fail;refine (HSz _).mono ?_;rintro e w0 ⟨rfl,rfl⟩;go_wp2_with fail;refine (HC1 _).mono ?_;rintro e w1 ⟨rfl,hb1⟩;have HB1:Hid (Below w.heap.size w w1):=HW.trans (hb1.mono HW.size);clear hb1 HW HC1 HSz;go_wp2_with fail;refine (HC2 _).mono ?_;rintro e w2 ⟨rfl,hb2⟩;have HB2:Hid (Below w.heap.size w w2):=HB1.trans (hb2.mono HB1.size);clear hb2 HB1 HC2;go_wp2_with fail;go_loopw [11,12] (fun v t wr=>∃j:Nat,j<=k/\t=.int .i64 j/\Hid (AtE w wr v (S.take j))) (fun _ t _=>5 - (intOf t).toNat)
   case atStart=>exact ⟨0,by omega,by go_num,⟨World.ownsRow_nil _ _ _ _,HB2.out⟩⟩
   case round =>
    obtain ⟨j,hj,rfl,HW⟩:=hrel;clear HB2;by_cases hlt2:j<k
    ·have z0:(0:Int)<=(j:Int):=by omega
     have z1:(j:Int)<(X.size:Int):=by omega
     have z2:(j:Int)<(Y.size:Int):=by omega
     have z3:(j:Int)<(k:Int):=by omega
     have hxk:j<X.size:=by omega
     have hyk:j<Y.size:=by omega
     have HT:=hO (HG j hlt2);have e1:=zal hxk;have e2:=zal hyk;rw [e1,e2] at HT;clear e1 e2;have hO:=HW.o;have hbs:=HW.b.size;have HTl:Hid ((S.take j).length<=4):=(by show _<=_;have:=List.length_take_le j S;omega);have wa:IntKind.i64.wrap (X[j].toNat:Int)=(X[j].toNat:Int):=by have:=X[j].toNat_lt;rw [wI];omega
     have wb:IntKind.i64.wrap (Y[j].toNat:Int)=(Y[j].toNat:Int):=by have:=Y[j].toNat_lt;rw [wI];omega
     generalize hxx:(X[j].toNat:Int)=a at *;generalize hyy:(Y[j].toNat:Int)=b at *;generalize S.take j=T at *;go_wp2_with fail;go_region_held3 (fun _=>True) (trivial) ((refine step_append_lies _ (by rfl) _ _ _ (by rfl) w.heap.size 133 i0 _ 2 16 Tryz.underlying130 hinf hz0 hz1 hz2 rfl (by omega) _ _ (spc T) (by rfl) ((hO.alloc _).drew) ⟨wr.heap.size,0,none⟩ 1 1 [.int .i64 a,.int .i64 b] (by rfl) (by rfl) (World.news_of_block (cs:=#[.int .i64 a,.int .i64 b]) (t:=133) (fr:=(0,0)) (heap_alloc_new wr _)) (by simp [Value.oneCell']) (by omega) (by have:=HTl.out;unfold maxLen;omega) (by have:=HTl.out;omega) (by simp;omega) (wr.heap.size+1) (by simp) ?_;intro g cap w3 hown1 hgrow hat hltg))
     all_goals
      have hle:=fun j e=>(hO.lt j e).1
      have HW2:=(show Hid (AtE w w3 (.slice (some ⟨g,0,none⟩) (T.length+1) cap) (S.take (j+1))) from (by
       rw [HT.out];refine ⟨?_,((HW.b.alloc (by omega) (.cells #[.int .i64 a,.int .i64 b] 133)).drew).grown hgrow (by simp;omega) (fun j e=>by have:=hle j e;omega)⟩;rw [lA,ze7];exact hown1))
      clear hown1 hgrow hat hltg hO HT HTl HW hle hxx hyy wa wb;go_wp2
      go_roundw
      case rel=>exact ⟨j+1,by omega,by go_num,HW2⟩
      case measure=>simp [intOf];omega
    ·obtain rfl:j=k:=by omega
     have HEq:Hid (S.take j=S):=List.take_of_length_le (by have:=HL.out;omega);rw [HEq.out] at HW;obtain ⟨g0,cy,rfl,_,_⟩:=World.ownsRow.form HW.o (show 0<S.length by have:=HL.out;omega);have HRR:Hid (RR (wr.alloc (.cells #[.slice (some ⟨g0,0,none⟩) S.length cy] 130)) w.heap.size (.slice (some ⟨wr.heap.size,0,none⟩) 1 1) [S] [.slice (some ⟨g0,0,none⟩) S.length cy]):=RR.one HW.b.size HW.o (by have:=HL.out;omega);have HB:Hid (Below w.heap.size w (wr.alloc (.cells #[.slice (some ⟨g0,0,none⟩) S.length cy] 130))):=HW.b.alloc HW.b.size _;clear HG HL HEq HW;go_wp2
     go_ret
     exact ⟨⟨_,_,rfl,by rw [HE.out];exact HRR.out⟩,HB.out⟩
theorem zdR:∀(f:Nat) (lo hi:Int),Blk lo hi->(hi - lo).toNat<=f->PcS lo hi
 | 0,lo,hi,h,hf=>zeG lo hi h fun c hs=>by
  have:=zbp h.cpl.2.2.2.1 h.cpl.2.2.2.2.1 hs;omega
 | f+1,lo,hi,h,hf=>zeG lo hi h fun c hs=>by
  have:=zbp h.cpl.2.2.2.1 h.cpl.2.2.2.2.1 hs;exact ⟨zdR f lo (c - 1) (h.cut hs).1 (by omega),zdR f c hi (h.cut hs).2 (by omega)⟩
theorem zg7 (lo hi:Int) (h:hi<lo) (w:World):Calls Tryz.prog 192 #[.int .i64 lo,.int .i64 hi] w (rU w (.slice none 0 0)):=by
 go_enter Tryz.func192,Tryz.ntmps192;go_wp2
 go_ret
 exact ⟨rfl,rfl⟩
theorem zg8 (lo hi:Int) (k:Nat) (b:Int×Int) (hb:blks[k]?=some b) (w:World) :
  Calls Tryz.prog 192 #[.int .i64 (max lo b.1),.int .i64 (min hi b.2)] w fun e w'=>(∃v xs,e=.returned v/\RR w' w.heap.size v (zd6 lo hi b) xs)/\Below w.heap.size w w':=by
 unfold zd6;rw [Int.max_comm lo b.1,Int.min_comm hi b.2];by_cases h:max b.1 lo<=min b.2 hi
 ·rw [iP h]
  exact zdR _ _ _ ((zfv hb).2.2.2 lo hi h) (nL _) w
 ·rw [iN h]
  exact (zg7 _ _ (by omega) w).mono fun e w' ⟨h1,h2⟩=>⟨⟨_,[],h1,RR.nil _ _⟩,by rw [h2];exact bR _ _⟩
def tabO:Obj:=.cells #[.int .i64 0,.int .i64 127,.int .i64 128,.int .i64 2047,.int .i64 2048,.int .i64 55295,.int .i64 57344,.int .i64 65535,.int .i64 65536,.int .i64 1114111] 180
theorem zma (w:World) (k:Nat) (b:Int×Int) (h:blks[k]?=some b):(w.alloc tabO).cell? ⟨w.heap.size,k * 2,none⟩=some (.int .i64 b.1)/\(w.alloc tabO).cell? ⟨w.heap.size,k * 2+1,none⟩=some (.int .i64 b.2):=by
 unfold tabO
 match k,h with
 | 0,h=>cases h;simp
 | 1,h=>cases h;simp
 | 2,h=>cases h;simp
 | 3,h=>cases h;simp
 | 4,h=>cases h;simp
theorem zeH {wr w2:World} (h:Below wr.drew.heap.size wr.drew w2):Below wr.heap.size wr w2:=((bR wr.heap.size wr).drew).trans h
theorem zmb {wr w2 w3:World} {B k:Nat} {a b:Value} {row:Option Nat} (c0:wr.cell? ⟨B,k * 2,none⟩=some a) (c1:wr.cell? ⟨B,k * 2+1,none⟩=some b) (hlt:B<wr.heap.size) (hb:Below wr.heap.size wr w2) (hg:w2.grownBy w3 row) (hne:row≠some B) :
  w3.cell? ⟨B,k * 2,none⟩=some a/\w3.cell? ⟨B,k * 2+1,none⟩=some b :=
 ⟨(hg.cell_far ⟨B,k * 2,none⟩ (nM hlt hb.size) (Ne.symm hne)).trans ((hb.cell (p:=⟨B,k * 2,none⟩) hlt).trans c0),(hg.cell_far ⟨B,k * 2+1,none⟩ (nM hlt hb.size) (Ne.symm hne)).trans ((hb.cell (p:=⟨B,k * 2+1,none⟩) hlt).trans c1)⟩
structure AtG (w wr:World) (v:Value) (ss:List zaX):Prop where
 r:∃xs,RR wr (w.heap.size+1) v ss xs
 lt:w.heap.size<wr.heap.size
 c:∀(k:Nat) b,blks[k]?=some b->wr.cell? ⟨w.heap.size,k * 2,none⟩=some (.int .i64 b.1)/\wr.cell? ⟨w.heap.size,k * 2+1,none⟩=some (.int .i64 b.2)
 b:Below w.heap.size w wr
theorem ziq (lo hi:Int) (h0:0<=lo) (h1:lo<=hi) (h2:hi<=1114111) (w:World) :
  Calls Tryz.prog 186 #[.int .i64 lo,.int .i64 hi] w fun e w'=>(∃v xs,e=.returned (.tuple #[v,.int .i64 0])/\RR w' w.heap.size v (zcH lo hi) xs)/\Below w.heap.size w w':=by
 have HA:Hid (AtG w (w.alloc tabO) (.slice none 0 0) []):=⟨⟨[],RR.nil _ _⟩,by simp,fun k b h=>zma w k b h,(bR _ _).alloc (nL _) _⟩;unfold tabO at HA;have d0:decide (lo<0)=false:=dF (by omega);have d1:decide (1114111<lo)=false:=dF (by omega);have d2:decide (hi<0)=false:=dF (by omega);have d3:decide (1114111<hi)=false:=dF (by omega);have d4:decide (hi<lo)=false:=dF (by omega);clear h0 h1 h2;go_enter Tryz.func186,Tryz.ntmps186;go_wp2_with fail;go_loopw [7,8] (fun v t wr=>∃k:Nat,k<=5/\t=.int .i64 k/\Hid (AtG w wr v (zfu lo hi k))) (fun _ t _=>6 - (intOf t).toNat)
 case atStart=>exact ⟨0,by omega,by go_num,HA⟩
 case round =>
  obtain ⟨k,hk,rfl,HW⟩:=hrel;clear HA;by_cases hk5:k<5
  ·obtain ⟨b,hb⟩:∃b,blks[k]?=some b:=⟨_,gE (by show k<5;exact hk5)⟩
   have HP:Hid (∀w,Cl 192 #[.int .i64 (max lo b.1),.int .i64 (min hi b.2)] w fun e w'=>(∃v xs,e=.returned v/\RR w' w.heap.size v (zd6 lo hi b) xs)/\Below w.heap.size w w'):=fun w=>zg8 lo hi k b hb w
   have HT:=hO (zf3 lo hi k b hb);obtain ⟨c0,c1⟩:=HW.c k b hb;have HLen:=(show Hid ((zfu lo hi k).length+(zd6 lo hi b).length<=4000000) from (by
    have e1:=zf5 lo hi k b hb;have e2:=zfv hb;have e3:=zf4 lo hi b e2.1 e2.2.1
    show _<=_
    omega))
   obtain ⟨xs,hR⟩:=HW.r;have HR:=hO hR;have hltw:=HW.lt;have HNe:Hid (u7.ownBlock≠some w.heap.size):=fun e=>by have:=(World.ownsRow.lt hR.o _ e).1;omega
   have HBw:=hO HW.b;have HCa:=hO HW.c;clear hR HW hb;obtain ⟨b1,b2⟩:=b;dsimp only at *;have z0:(0:Int)<=(k:Int):=by omega
   have z5:(k:Int)<5:=by omega
   go_wp2_with fail;go_region_held3 (fun w'=>w'.cell? ⟨w.heap.size,k * 2,none⟩=some (.int .i64 b1)/\w'.cell? ⟨w.heap.size,k * 2+1,none⟩=some (.int .i64 b2))
    (first | go_keep | exact ⟨(hb2.cell (p:=⟨w.heap.size,k * 2,none⟩) hltw).trans c0,(hb2.cell (p:=⟨w.heap.size,k * 2+1,none⟩) hltw).trans c1⟩ | exact zmb c0 c1 hltw (zeH hb2) hg3 HNe.out)
    (first | (go_at_call 192;with_reducible refine (HP.out _).mono ?_;rintro e w2 ⟨⟨v2,xs2,rfl,hR2⟩,hb2⟩) | (refine zeU (by rfl) _ _ (by rfl) (by rfl) (by rfl) (HR.out.drew.below hb2) (HR.out.under) hR2 (by omega) hb2.size HLen.out ?_;intro v' w3 hR3 hg3 hk3))
   all_goals
    have HW3:=(show Hid (AtG w w3 v' (zfu lo hi (k+1))) from (by
     have k1:Below wr.heap.size wr w2:=zeH hb2;have kb:∀j,j<wr.heap.size->u7.ownBlock≠some j->w3.heap[j]?=wr.heap[j]?:=fun j hj hn=>(hg3.block j (nM hj k1.size) (fun e=>hn e.symm)).trans (k1.block j hj)
     refine ⟨⟨xs++xs2,by rw [HT.out];exact hR3⟩,nM hltw (Nat.le_trans k1.size hg3.size),fun j b hj=>?_,(HBw.trans (k1.mono (by omega))).grown hg3 (by have:=k1.size;omega) (fun j e=>by have:=(World.ownsRow.lt HR.o j e).1;omega)⟩;have:=HCa j b hj;exact ⟨(World.cell?_of_block (a:=⟨w.heap.size,j * 2,none⟩) (kb w.heap.size hltw HNe.out)).trans this.1,(World.cell?_of_block (a:=⟨w.heap.size,j * 2+1,none⟩) (kb w.heap.size hltw HNe.out)).trans this.2⟩))
    clear hR3 hg3 hk3 hR2 hb2 HR HBw HCa HNe c0 c1;go_wp2
    go_roundw
    case rel=>exact ⟨k+1,by omega,by go_num,HW3⟩
    case measure=>simp [intOf];omega
  ·obtain rfl:k=5:=by omega
   rw [zdo] at HW;obtain ⟨xs,hR⟩:=HW.r;have HR:Hid (RR wr w.heap.size u7 (zcH lo hi) xs):=hR.base (by omega);have b:=HW.b;clear hR HW;go_wp2
   go_ret2
   exact ⟨⟨_,xs,rfl,HR.out⟩,b⟩
theorem zg9 (lo hi:Int) (w:World) :
  Calls Tryz.prog 186 #[.int .i64 lo,.int .i64 hi] w fun e w'=>ShV w w' lo hi e/\Below w.heap.size w w':=by
 by_cases h0:0<=lo/\lo<=1114111
 ·by_cases h1:0<=hi/\hi<=1114111
  ·by_cases h2:lo<=hi
   ·refine (ziq lo hi h0.1 h2 h1.2 w).mono fun e w' ⟨h3,h4⟩=>⟨?_,h4⟩
    unfold ShV;rw [iP ⟨zdl h0,zdl h1⟩,iP h2];exact h3
   ·have HE:=(show Hid (∀w' e,e=.returned (.tuple #[.slice none 0 0,.int .i64 1])->ShV w w' lo hi e) from fun w' e he=>by
     unfold ShV;rw [iP ⟨zdl h0,zdl h1⟩,iN h2];exact he)
    have h3:hi<lo:=by omega
    have d0:decide (lo<0)=false:=dF (by omega);have d1:decide (1114111<lo)=false:=dF (by omega);have d2:decide (hi<0)=false:=dF (by omega);have d3:decide (1114111<hi)=false:=dF (by omega);clear h0 h1 h2;go_enter Tryz.func186,Tryz.ntmps186;go_wp2
    go_ret2
    exact ⟨HE _ _ rfl,bR _ _⟩
  ·have HE:=(show Hid (∀w' e,e=.returned (.tuple #[.slice none 0 0,.int .i64 30])->ShV w w' lo hi e) from fun w' e he=>by
    unfold ShV;rw [iN (by rw [zf2 h1];simp)];exact he)
   have d0:decide (lo<0)=false:=dF (by omega);have d1:decide (1114111<lo)=false:=dF (by omega);have h3:hi<0∨(0<=hi/\1114111<hi):=by omega
   clear h0 h1
   rcases h3 with h3 | ⟨h3,h4⟩
   ·go_enter Tryz.func186,Tryz.ntmps186
    go_wp2
    go_ret2
    exact ⟨HE _ _ rfl,bR _ _⟩
   ·have d2:decide (hi<0)=false:=dF (by omega)
    go_enter Tryz.func186,Tryz.ntmps186;go_wp2
    go_ret2
    exact ⟨HE _ _ rfl,bR _ _⟩
 ·have HE:=(show Hid (∀w' e,e=.returned (.tuple #[.slice none 0 0,.int .i64 30])->ShV w w' lo hi e) from fun w' e he=>by
   unfold ShV;rw [iN (by rw [zf2 h0];simp)];exact he)
  have h3:lo<0∨(0<=lo/\1114111<lo):=by omega
  clear h0
  rcases h3 with h3 | ⟨h3,h4⟩
  ·go_enter Tryz.func186,Tryz.ntmps186
   go_wp2
   go_ret2
   exact ⟨HE _ _ rfl,bR _ _⟩
  ·have d2:decide (lo<0)=false:=dF (by omega)
   go_enter Tryz.func186,Tryz.ntmps186;go_wp2
   go_ret2
   exact ⟨HE _ _ rfl,bR _ _⟩
end Go.Proofs.YtkihfkcmcdiajaaGreatDoor.R
