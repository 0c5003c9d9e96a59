import Derived.Recover
import Derived.Defers
import Derived.Test.YtkihfkcmcdiajabGreatDoorPo24
set_option maxRecDepth 100000
set_option maxHeartbeats 8000000
namespace Go.Proofs.YtkihfkcmcdiajabGreatDoor.N
open Go.RowKit
theorem ziK {F:Nat} (hen:∀args w,(callFunc F args).run Tryz.prog w=.ok (.enter F args) w) {ops:Array Oper} {o:Oper} {a:Act} {w:World} {K:Act->World->Prop} {Q:Exit->Act->World->Prop} {E:Prop} (hgd:o.guard=none) (x y:Operand) (T U:TypeId) (ho:o.op=.call { callee:=.value (.func F),args:=#[x,y],argTypes:=#[T,U] }) (v u:Value) (hx:a.eval x=v) (hy:a.eval y=u)
  (hc:Cl F #[v,u] w fun e w'=>∃r,e=.returned r/\K (a.put o.dst r) w') :
  if Region.wanted o (yielded ops a.tmps)=true then Oper.wp Tryz.prog o a w K Q else E:=by
 have hw:Region.wanted o (yielded ops a.tmps)=true:=by simp [Region.wanted,hgd]
 rw [iP hw];have he:(execOp a.eval o).run Tryz.prog w=.ok (.enter F #[v,u]) w:=by
  unfold execOp;simp [ho,go_sem,invoke,hen]
  rw [<-hx,<-hy]
  cases x <;> cases y <;> simp [Act.eval]
 unfold Oper.wp;rw [he,Oper.upon_enter];refine hc.mono ?_;rintro e w' ⟨r,rfl,hk⟩;exact hk
theorem zmR (args:Array Value) (w:World):(callFunc 26 args).run Tryz.prog w=.ok (.enter 26 args) w:=enters_of Tryz.func26 (by kernel_rfl) rfl args w
theorem DB.drew {W:World} {k:Nat} {a0 a1 a2 a3 a4 a5 a6:Value} (h:DB W k a0 a1 a2 a3 a4 a5 a6):DB W.drew k a0 a1 a2 a3 a4 a5 a6:=⟨h.heap⟩
theorem GX.drew {W:World} {k:Nat} {a:Value} (h:GX W k a):GX W.drew k a:=⟨h.heap⟩
theorem B4.fin {k:Nat} {W:World} {tv:Value} {i z d:Int} {v:Value} {p c:Int} {u:Value} (h:B4 k W tv i z d v p c u) (a0 a1 a2 a3 a4 a5 a6 x:Value):DB ((st7 W (k+1) a0 a1 a2 a3 a4 a5 a6).setCell ⟨k+1+1,0,none⟩ x) (k+1) a0 a1 a2 a3 a4 a5 a6/\GX ((st7 W (k+1) a0 a1 a2 a3 a4 a5 a6).setCell ⟨k+1+1,0,none⟩ x) (k+1+1) x :=
 ⟨(zaH h.r _ _ _ _ _ _ _).same (bS _ _ _ _ (by show k+1≠k+1+1;omega)),(h.o.same (zaw _ _ _ _ _ _ _ (by omega))).set x⟩
theorem B4.grow {k:Nat} {W W1:World} {tv:Value} {i z d:Int} {v:Value} {p c:Int} {u:Value} (h:B4 k W tv i z d v p c u) {B e s n:Nat} {r:Value} {xs:List Value} (ho:W.ownsRow B e s r n xs) (h65:e≠44) (h24:e≠24) (hg:W.grownBy W1 r.ownBlock):B4 k W1 tv i z d v p c u :=
 ⟨h.s.same (hg.block _ h.s.lt fun q=>h.s.ne ho h65 q.symm rfl),h.r.same (hg.block _ h.r.lt fun q=>h.r.ne ho h65 q.symm rfl),h.o.same (hg.block _ h.o.lt fun q=>h.o.ne ho h24 q.symm rfl),h.g.same (hg.block _ h.g.lt fun q=>h.g.ne ho h24 q.symm rfl)⟩
theorem B4.s1 {k:Nat} {W:World} {tv:Value} {i z d:Int} {v:Value} {p c:Int} {u:Value} (h:B4 k W tv i z d v p c u) (x:Int):B4 k (W.setCell ⟨k,1,none⟩ (.int .i64 x)) tv x z d v p c u:=⟨h.s.s1 _,h.r.same (bS _ _ _ _ (by show k+1≠k;omega)),h.o.same (bS _ _ _ _ (by show k+2≠k;omega)),h.g.same (bS _ _ _ _ (by show k+3≠k;omega))⟩
theorem B4.s4 {k:Nat} {W:World} {tv:Value} {i z d:Int} {v:Value} {p c:Int} {u:Value} (h:B4 k W tv i z d v p c u) (x:Value):B4 k (W.setCell ⟨k,4,none⟩ x) tv i z d x p c u:=⟨h.s.s4 _,h.r.same (bS _ _ _ _ (by show k+1≠k;omega)),h.o.same (bS _ _ _ _ (by show k+2≠k;omega)),h.g.same (bS _ _ _ _ (by show k+3≠k;omega))⟩
theorem B4.setO {k:Nat} {W:World} {tv:Value} {i z d:Int} {v:Value} {p c:Int} {u:Value} (h:B4 k W tv i z d v p c u) {y:Nat} (hy:k+4<=y) (j:Nat) (x:Value):B4 k (W.setCell ⟨y,j,none⟩ x) tv i z d v p c u:=h.kept fun q _ h2=>bS _ _ _ _ (by show q≠y;omega)
structure XB (W:World) (y:Nat) (nm v:Value):Prop where
 heap:W.heap[y]?=some (.cells #[nm,v] 57 (0,0))
theorem XB.lt {W:World} {y:Nat} {nm v:Value} (h:XB W y nm v):y<W.heap.size:=(Array.getElem?_eq_some_iff.1 h.heap).1
theorem XB.same {W W':World} {y:Nat} {nm v:Value} (h:XB W y nm v) (hb:W'.heap[y]?=W.heap[y]?):XB W' y nm v:=⟨hb.trans h.heap⟩
theorem XB.cl {W:World} {y:Nat} {nm v:Value} (h:XB W y nm v):W.cell? ⟨y,0,none⟩=some nm/\W.cell? ⟨y,1,none⟩=some v:=by
 constructor
 ·rw [cell_of_row W y 0 _ 57 (0,0) h.heap];rfl
 ·rw [cell_of_row W y 1 _ 57 (0,0) h.heap];rfl
theorem XB.fz {W:World} {y:Nat} {nm v:Value} (h:XB W y nm v) (j:Nat):W.frozen? ⟨y,j,none⟩=false:=frozen_of_row W y j _ 57 h.heap
theorem XB.s1 {W:World} {y:Nat} {nm v:Value} (h:XB W y nm v) (x:Value):XB (W.setCell ⟨y,1,none⟩ x) y nm x:=⟨by rw [heap_setCell_same _ y 1 _ 57 x h.heap];simp⟩
theorem XB.ne {W:World} {y B e s n:Nat} {nm v u:Value} {xs:List Value} (h:XB W y nm v) (ho:W.ownsRow B e s u n xs) (he:e≠57) {j:Nat} (hj:u.ownBlock=some j):j≠y:=fun q=>by
 subst q;obtain ⟨cs,hc⟩:=zd0 ho hj;rw [h.heap] at hc
 injection hc with h4
 injection h4 with _ h5
 exact he h5.symm
theorem Rv.olt {E:PE} {z:Nat} {w0 W:World} {tv:Value} {st:St} {i d:Int} {A:Option Addr} {l c:Nat} {p q:Int} (h:Rv E z w0 tv W st i d A l c p q) {j:Nat} (e:(ow st (.slice A l c)).ownBlock=some j):j<W.heap.size:=by
 cases st with
 | inl s=>exact (h.2.2.2.2.2.o.lt j e).2
 | inr s=>cases e
def plW (E:PE) (z:Nat) (ov:List (Rl×Value)):List Value:=ov.map fun x=>.int .i64 (plA E z x.1.1)
structure Rws (E:PE) (z:Nat) (w0 W:World) (u pv:Value) (ov:List (Rl×Value)):Prop where
 o:W.ownsRow w0.heap.size 57 2 u ov.length (grc ov)
 p:W.ownsRow w0.heap.size 3 1 pv ov.length (plW E z ov)
 b:Bds w0 W ov
section
variable {E:PE} {z:Nat} {w0 W W':World} {u pv:Value} {ov:List (Rl×Value)}
theorem Rws.same (h:Rws E z w0 W u pv ov) (hk:∀j,(u.ownBlock=some j∨pv.ownBlock=some j∨∃x∈ov,x.2.ownBlock=some j)->W'.heap[j]?=W.heap[j]?):Rws E z w0 W' u pv ov :=
 ⟨zaj h.o fun j hj=>hk j (.inl hj),zaj h.p fun j hj=>hk j (.inr (.inl hj)),h.b.same fun x hx j hj=>hk j (.inr (.inr ⟨x,hx,hj⟩))⟩
theorem Rws.lt (h:Rws E z w0 W u pv ov) {j:Nat} (hj:u.ownBlock=some j∨pv.ownBlock=some j∨∃x∈ov,x.2.ownBlock=some j):j<W.heap.size:=by
 rcases hj with q | q | ⟨x,hx,q⟩
 ·exact (h.o.lt j q).2
 ·exact (h.p.lt j q).2
 ·exact ((h.b.e x hx).lt j q).2
theorem Rws.ne (h:Rws E z w0 W u pv ov) {k:Nat} {a0 a1 a2 a3 a4 a5 a6:Value} (hx:DB W k a0 a1 a2 a3 a4 a5 a6) {j:Nat} (hj:u.ownBlock=some j∨pv.ownBlock=some j∨∃x∈ov,x.2.ownBlock=some j):j≠k:=by
 rcases hj with q | q | ⟨x,hx2,q⟩
 ·exact hx.ne h.o (by decide) q
 ·exact hx.ne h.p (by decide) q
 ·exact hx.ne (h.b.e x hx2) (by decide) q
theorem Rws.ne2 (h:Rws E z w0 W u pv ov) {k:Nat} {a:Value} (hx:GX W k a) {j:Nat} (hj:u.ownBlock=some j∨pv.ownBlock=some j∨∃x∈ov,x.2.ownBlock=some j):j≠k:=by
 rcases hj with q | q | ⟨x,hx2,q⟩
 ·exact hx.ne h.o (by decide) q
 ·exact hx.ne h.p (by decide) q
 ·exact hx.ne (h.b.e x hx2) (by decide) q
theorem Rws.drew (h:Rws E z w0 W u pv ov):Rws E z w0 W.drew u pv ov:=h.same fun _ _=>rfl
theorem Rws.later (h:Rws E z w0 W u pv ov) (hb:bW W W'):Rws E z w0 W' u pv ov:=h.same fun j hj=>hb.block j (h.lt hj)
theorem Rws.upto (h:Rws E z w0 W u pv ov) {k:Nat} {a0 a1 a2 a3 a4 a5 a6:Value} (hx:DB W k a0 a1 a2 a3 a4 a5 a6) (hk:∀j,j<W.heap.size->j≠k->W'.heap[j]?=W.heap[j]?):Rws E z w0 W' u pv ov:=h.same fun j hj=>hk j (h.lt hj) (h.ne hx hj)
theorem Rws.place (h:Rws E z w0 W u pv ov) {o:Obj} {W1:World} (hg:(W.alloc o).grownBy W1 pv.ownBlock):W1.ownsRow w0.heap.size 57 2 u ov.length (grc ov)/\Bds w0 W1 ov :=
 ⟨zaj h.o fun j hj=>(hg.block j (by rw [sA];have:=(h.o.lt j hj).2;omega) fun e=>za2 h.o h.p (by decide) hj e.symm).trans ((zaa W o).block j (h.o.lt j hj).2),h.b.same fun y hy j hj=>(hg.block j (by rw [sA];have:=((h.b.e y hy).lt j hj).2;omega) fun e=>za2 (h.b.e y hy) h.p (by decide) hj e.symm).trans ((zaa W o).block j ((h.b.e y hy).lt j hj).2)⟩
end
def LdS (E:PE) (z:Nat) (w0:World) (tv:Value) (k:Nat) (R0:Sum (List Rl) (Nat×Int)) (W:World) (pv:Value) (st:St) (i d:Int) (A:Option Addr) (l c:Nat) (p q:Int) (u:Value):Prop :=
 B4 k W tv i z d (.slice A l c) p q u/\Rv E z w0 tv W st i d A l c p q/\(∃A2 l2 c2,u=.slice A2 l2 c2)/\match st with
  | .inl s=>s.2.1=0/\∃ov f,Rws E z w0 W u pv ov/\ov.length<=s.1/\E.l.length<f+s.1/\R0=rlG (exN E) E f s.1 (ov.map (·.1))
  | .inr q=>R0=.inr q
theorem znu {k n:Nat} {W:World} {a0 a2 a3 a4 a5:Value} {i:Nat} (h:DB W k a0 (.int .i64 i) a2 a3 a4 a5 (.int .i64 0)):mD k n W=n+1 - i:=by
 obtain ⟨_,k1,_,_,_,_,k6⟩:=h.cl;unfold mD;rw [k1,k6];rfl
theorem mDb_no {k n:Nat} {W:World} {a0 a2 a3 a4 a5:Value} {i c:Int} (h:DB W k a0 (.int .i64 i) a2 a3 a4 a5 (.int .i64 c)) (hc:c≠0):mD k n W=0:=by
 obtain ⟨_,k1,_,_,_,_,k6⟩:=h.cl;unfold mD;rw [k1,k6]
 show (if c=0 then _ else _)=_
 rw [iN hc]
theorem Rws.fin {E:PE} {z:Nat} {w0 W:World} {u pv:Value} {ov:List (Rl×Value)} {k:Nat} {tv v:Value} {i d p c:Int} {zz:Int} (h:Rws E z w0 W u pv ov) (hB:B4 k W tv i zz d v p c u) (a0 a1 a2 a3 a4 a5 a6 x:Value):Rws E z w0 ((st7 W (k+1) a0 a1 a2 a3 a4 a5 a6).setCell ⟨k+1+1,0,none⟩ x) u pv ov :=
 h.same fun _j hj=>(bS _ _ _ _ (h.ne2 hB.o hj)).trans (zaw _ _ _ _ _ _ _ (h.ne hB.r hj))
theorem zmS {E:PE} (hE:OkE E) {z:Nat} {w0 W:World} {At:Option Addr} {ct:Nat} (h:DS E w0 W (.slice At E.l.length ct) 0 0 (.slice none 0 0) []) (hr0:ruB E 0=true):Cl 14 #[rdV (.slice At E.l.length ct) 0 z 0 (.slice none 0 0) 0 0] W fun e W'=>RdD E z w0 (.slice At E.l.length ct) (rdN E) e W':=by
 have hlen:=hE.len;have hz:=hE.z;have hru:=zeU hr0;obtain ⟨A',c',e',hc'⟩:=h.tk;obtain ⟨g,hA,hz8,hz9⟩:=hc' 0 (by omega)
 cases e'
 subst hA;clear hc' hz8 hz9;obtain ⟨i0,hinf,hz0,hz1,hz2⟩:=info_parts Tryz.info41;obtain ⟨i1,hinf1,hy0,hy1,hy2⟩:=info_parts T.Tryz.info3;obtain ⟨R0,hR0⟩:∃r,r=rdN E:=⟨_,rfl⟩;have hR1:R0=rlG (exN E) E (E.l.length+1) 0 (([]:List (Rl×Value)).map (·.1)):=by rw [hR0];unfold rdN;rw [iP hr0];rfl
 have HLo:Hid (w0.heap.size<=W.heap.size):=h.bl.size;have HEe:=hO hE;have HRu:Hid (∀W a v L,DS E w0 W (.slice (some ⟨g,0,none⟩) E.l.length ct) a 0 v L->Cl 25 #[rdV (.slice (some ⟨g,0,none⟩) E.l.length ct) a z 0 v 0 0] W (rB W (.bool (ruB E a)))):=fun W a v L h=>zbv h z 0 0 hz
 have HOk:Hid (∀(i d:Int) (A:Option Addr) (l c:Nat) (p q:Int) W,Cl 15 #[rdV (.slice (some ⟨g,0,none⟩) E.l.length ct) i z d (.slice A l c) p q] W (rB W (.bool (q==0)))):=fun i d A l c p q W=>zaP (some ⟨g,0,none⟩) E.l.length ct i z d A l c p q W
 have HX:=B4.new W (.slice (some ⟨g,0,none⟩) E.l.length ct) 0 z 0 (.slice none 0 0) 0 0;have HB:=hO HX.1;have HD:Hid (DS E w0 ((((W.alloc (rdO (.slice (some ⟨g,0,none⟩) E.l.length ct) 0 z 0 (.slice none 0 0) 0 0)).alloc rdZ).alloc gxZ).alloc gxZ) (.slice (some ⟨g,0,none⟩) E.l.length ct) 0 0 (.slice none 0 0) []):=h.later HX.2.1;have HRu0:Hid (∀W,DS E w0 W (.slice (some ⟨g,0,none⟩) E.l.length ct) 0 0 (.slice none 0 0) []->Cl 25 #[rdV (.slice (some ⟨g,0,none⟩) E.l.length ct) 0 z 0 (.slice none 0 0) 0 0] W (rB W (.bool true))):=fun W h=>by
  have:=HRu.out W 0 _ _ h;rw [hr0] at this;exact this
 have HR1:=hO hR1;have HLe:Hid (E.l.length<=65536):=hlen;rw [<-hR0];clear hR0 hR1 HX h hE hlen hr0 hru;go_enter Tryz.func14,Tryz.ntmps14;go_wp2_with fail;generalize (((W.alloc (rdO (.slice (some ⟨g,0,none⟩) E.l.length ct) 0 z 0 (.slice none 0 0) 0 0)).alloc rdZ).alloc gxZ).alloc gxZ=w1 at *;refine (HRu0 _ HD.out).mono ?_;rintro e w2 ⟨rfl,hb⟩;have HIn:Hid (LdS E z w0 (.slice (some ⟨g,0,none⟩) E.l.length ct) W.heap.size R0 w2 (.slice none 0 0) (.inl (0,0,[])) 0 0 none 0 0 0 0 (.slice none 0 0)):=⟨HB.later hb,⟨rfl,rfl,rfl,rfl,rfl,HD.later hb⟩,⟨none,0,0,rfl⟩,rfl,[],E.l.length+1,⟨World.ownsRow_nil _ _ _ _,World.ownsRow_nil _ _ _ _,⟨fun x hx=>(by cases hx),List.Pairwise.nil⟩⟩,nL _,(by show E.l.length<E.l.length+1+0;omega),HR1.out⟩;clear hb HB HD HRu0 HR1;go_wp2_with fail;go_loopw [6] (fun pv wr=>∃(st:St) (i3 d3:Int) (A1:Option Addr) (l1 c1:Nat) (p3 q3:Int) (u:Value),Hid (LdS E z w0 (.slice (some ⟨g,0,none⟩) E.l.length ct) W.heap.size R0 wr pv st i3 d3 A1 l1 c1 p3 q3 u)) (fun _ wr=>mD W.heap.size E.l.length wr)
 case atStart=>exact ⟨_,_,_,_,_,_,_,_,_,HIn⟩
 case round =>
  clear HIn;obtain ⟨st,i3,d3,A1,l1,c1,p3,q3,u,HL⟩:=hrel;obtain ⟨A2,l2,c2,rfl⟩:=HL.2.2.1
  rcases st with ⟨a,dd,L⟩ | qq
  ·obtain ⟨hdd,ov,f,hRw,hn,hf,hR⟩:=HL.2.2.2
   obtain rfl:dd=0:=hdd;have h9:q3=0/\p3=0/\i3=(a:Int)/\d3=(0:Int)/\l1=L.length/\DS E w0 wr (.slice (some ⟨g,0,none⟩) E.l.length ct) a 0 (.slice A1 l1 c1) L:=HL.2.1;obtain ⟨rfl,rfl,rfl,rfl,hz8,hz9⟩:=h9;have HD4:=hO hz9;have HB4:Hid (B4 W.heap.size wr (.slice (some ⟨g,0,none⟩) E.l.length ct) a z 0 (.slice A1 l1 c1) 0 0 (.slice A2 l2 c2)):=HL.1;have HR4:=hO hRw;have HM:Hid (mD W.heap.size E.l.length wr=E.l.length+1 - a):=znu HL.1.s;have ha:=hz9.hi;obtain ⟨f,rfl⟩:∃g,f=g+1:=⟨f - 1,by omega⟩;have HG:Hid (R0=if a<E.l.length then (if ruB E a=true then (match exN E (a+2) with
    | .inr q=>.inr q
    | .inl p=>rlG (exN E) E f p.1 (ov.map (·.1)++[(a,(tkA E a).tx,p.2)])) else .inr (a,60)) else .inl (ov.map (·.1))):=by
    show R0=_
    rw [hR,rlG]
    all_goals
     split
     ·split
      ·cases exN E (a+2) <;> rfl
      ·rfl
     ·rfl
   have HOk4:Hid (∀W,Cl 15 #[rdV (.slice (some ⟨g,0,none⟩) E.l.length ct) a z 0 (.slice A1 l1 c1) 0 0] W (rB W (.bool true))):=fun W=>HOk a 0 A1 l1 c1 0 0 W
   have HNf:Hid (ov.length<=a/\E.l.length<f+1+a):=⟨hn,hf⟩;clear HL hRw hn hf hR hz8 hz9 HOk;obtain ⟨k0,k1,k2,k3,k4,k5,k6⟩:=HB4.s.cl;by_cases hlt:a<E.l.length
   ·have t1:(a:Int)<(E.l.length:Int):=by omega
    go_wp2_with fail;refine (HOk4 _).mono ?_;rintro e w5 ⟨rfl,hb⟩;have HB5:=hO (HB4.later hb);have HD5:=hO (HD4.later hb);have HR5:=hO (HR4.later hb);clear hb HOk4 HB4 HD4 HR4 k0 k1 k2 k3 k4 k5 k6;obtain ⟨k0,k1,k2,k3,k4,k5,k6⟩:=HB5.s.cl;go_wp2_with fail;refine (HRu _ _ _ _ HD5.out).mono ?_;rintro e w6 ⟨rfl,hb⟩;have HB6:=hO (HB5.later hb);have HD6:=hO (HD5.later hb);have HR6:=hO (HR5.later hb);clear hb HB5 HD5 HR5 HRu k0 k1 k2 k3 k4 k5 k6
    cases hru:ruB E a with
    | true =>
     have hb2:=zeU hru;obtain ⟨b,hbe⟩:∃b,b=a+2:=⟨_,rfl⟩;have u2:IntKind.i64.wrap ((a:Int)+2)=(b:Int):=by rw [wI];omega
     obtain ⟨pl,hpl⟩:∃x,(tkA E a).fr=x:=⟨_,rfl⟩;obtain ⟨tx,htx⟩:∃x,(tkA E a).tx=x:=⟨_,rfl⟩;have HPl:Hid (plA E z a=pl):=by show plA E z a=pl;unfold plA;rw [iP hlt];exact hpl
     have HG2:Hid (R0=match gN E 0 b 0 with
      | .inr q=>.inr q
      | .inl p=>rlG (exN E) E f p.1 (ov.map (·.1)++[(a,tx,p.2)])):=by
      show R0=_
      rw [HG.out,iP hlt,iP hru,htx,<-hbe];rfl
     have HTk:Hid (∀W' v L,DS E w0 W' (.slice (some ⟨g,0,none⟩) E.l.length ct) a 0 v L->W'.cell? ⟨g,a * 9+2,none⟩=some (.int .i64 pl)/\W'.cell? ⟨g,a * 9+4,none⟩=some (.string tx)):=fun W' v L hd=>by
      obtain ⟨A',c',e',hc'⟩:=hd.tk;obtain ⟨g',hA,_,hr⟩:=hc' a hlt
      cases e'
      cases hA
      exact ⟨by rw [<-hpl];exact hr.c2,by rw [<-htx];exact hr.c4⟩
     have HEx:Hid (∀W' v,DS E w0 W' (.slice (some ⟨g,0,none⟩) E.l.length ct) b 0 v []->Cl 29 #[rdV (.slice (some ⟨g,0,none⟩) E.l.length ct) b z 0 v 0 0] W' fun e W2=>Pu E z w0 (.slice (some ⟨g,0,none⟩) E.l.length ct) W' v (.inl (b,0,[])) (stR 0 [] (gN E 0 b 0)) e W2):=fun W' v hd=>(zdB HEe hd.hi W' v [] hd (Nat.zero_le _)).mono fun _ _ hp=>hp.u fun q hq=>by
      have:=(zbA hd.hi (by omega) hq).2;omega
     have HBd:Hid (a<b/\b<=E.l.length):=⟨by omega,by omega⟩;have HAd:Hid (∀p,gN E 0 b 0=.inl p->b<p.1/\p.1<=E.l.length):=fun p hp=>by
      have:=zbN (a:=p.1) (ns:=p.2) HBd.2 (by omega) hp;exact ⟨this.2.2 (by omega),this.2.1⟩
     have HEr:Hid (∀q,gN E 0 b 0=.inr q->q.2≠0):=fun q hq=>by
      have:=(zbA HBd.2 (by omega) hq).2;omega
     have z0:(0:Int)<=(a:Int):=by omega
     have hNb:Hid (ov.length<=65536):=by have h1:=HNf.1;have h2:=HLe.out;show ov.length<=65536;omega
     clear HG hru hb2 hbe hpl htx hlt;obtain ⟨A5,c5,hv5⟩:=zaf HR6.p;subst hv5;obtain ⟨tk2,tk4⟩:=HTk _ _ _ HD6.out;have hs6:=HD6.bl.size;obtain ⟨k0,k1,k2,k3,k4,k5,k6⟩:=HB6.s.cl;go_wp2_with (at_builtin;refine wpList_append_lies _ rfl _ _ 45 rfl w0.heap.size 3 i1 (.int .i64 0) 1 8 Tryz.underlying45 hinf1 hy0 hy1 hy2 rfl (by decide) _ _ _ rfl (HR6.p.alloc _) ⟨w6.heap.size,0,none⟩ 1 1 [.int .i64 pl] rfl rfl (cell_one_new _ _ _) ?c2 (by decide) ?c3 ?c4 ?c5 (w6.heap.size+1) (by simp) ?_)
     case c2=>intro u hu;rw [List.mem_singleton.1 hu];rfl
     case c3=>have:=hNb.out;unfold maxLen;omega
     case c4=>have:=hNb.out;omega
     case c5=>rw [sA];omega
     intro g7 cap7 w7 hown7 hgrow7 hat7 hlt7;have HB7:Hid (B4 W.heap.size w7 (.slice (some ⟨g,0,none⟩) E.l.length ct) a z 0 (.slice A1 l1 c1) 0 0 (.slice A2 l2 c2)):=(HB6.later (zaa _ _)).grow (HR6.p.alloc _) (by decide) (by decide) hgrow7;have HR7:Hid (w7.ownsRow w0.heap.size 57 2 (.slice A2 l2 c2) ov.length (grc ov)/\Bds w0 w7 ov):=HR6.place hgrow7;have HP7:Hid (w7.ownsRow w0.heap.size 3 1 (.slice (some ⟨g7,0,none⟩) (ov.length+1) cap7) (ov.length+1) (plW E z ov++[.int .i64 pl])):=hown7;have HD7:=(show Hid (DS E w0 w7 (.slice (some ⟨g,0,none⟩) E.l.length ct) a 0 (.slice none 0 0) []) from by
      have hd:=HD6.later (zaa w6 (.cells #[.int .i64 pl] 3));have hp:=HR6.p.alloc (.cells #[.int .i64 pl] 3);exact ⟨hd.bl.grown hgrow7 hd.bl.size (fun k e=>(hp.lt k e).1),zaj hd.t fun j hj=>hgrow7.block j (hd.t.lt j hj).2 (fun e=>za2 hd.t hp (by decide) hj e.symm),World.ownsRow_nil _ _ _ _,hd.hi,hd.hd⟩)
     clear hown7 hgrow7 hat7 hlt7 HB6 HR6 HD6 tk2 tk4 hs6 k0 k1 k2 k3 k4 k5 k6;obtain ⟨wA,hwA⟩:∃w,w7.alloc (.cells #[.string tx,.slice none 0 0] 57)=w:=⟨_,rfl⟩;obtain ⟨wB,hwB⟩:∃w,wA.setCell ⟨W.heap.size,1,none⟩ (.int .i64 b)=w:=⟨_,rfl⟩;obtain ⟨wC,hwC⟩:∃w,wB.alloc (.cells #[] 65)=w:=⟨_,rfl⟩;obtain ⟨y,hy⟩:∃y,w7.heap.size=y:=⟨_,rfl⟩;obtain ⟨yE,hyE⟩:∃y,wB.heap.size=y:=⟨_,rfl⟩;have HBA:Hid (B4 W.heap.size wA (.slice (some ⟨g,0,none⟩) E.l.length ct) a z 0 (.slice A1 l1 c1) 0 0 (.slice A2 l2 c2)):=by rw [<-hwA];exact HB7.later (zaa _ _)
     have HBB:Hid (B4 W.heap.size wB (.slice (some ⟨g,0,none⟩) E.l.length ct) b z 0 (.slice A1 l1 c1) 0 0 (.slice A2 l2 c2)):=by rw [<-hwB];exact HBA.s1 b
     have HBC:Hid (B4 W.heap.size wC (.slice (some ⟨g,0,none⟩) E.l.length ct) b z 0 (.slice A1 l1 c1) 0 0 (.slice A2 l2 c2)):=by rw [<-hwC];exact HBB.later (zaa _ _)
     have HBD:Hid (B4 W.heap.size (wC.setCell ⟨W.heap.size,4,none⟩ (.slice (some ⟨yE,0,none⟩) 0 0)) (.slice (some ⟨g,0,none⟩) E.l.length ct) b z 0 (.slice (some ⟨yE,0,none⟩) 0 0) 0 0 (.slice A2 l2 c2)):=HBC.s4 _;have hyy:y+1=yE:=by rw [<-hyE,<-hwB,<-hy];show w7.heap.size+1=(wA.setCell _ _).heap.size;rw [World.size_setCell,<-hwA,sA]
     have hk7:=HB7.g.lt;rw [hy] at hk7;have HYs:Hid (y+1=yE/\W.heap.size+3<y):=⟨hyy,hk7⟩;have HXA:Hid (XB wA y (.string tx) (.slice none 0 0)):=by rw [<-hwA,<-hy];exact ⟨heap_alloc_new w7 _⟩
     have HXD:=(show Hid (XB (wC.setCell ⟨W.heap.size,4,none⟩ (.slice (some ⟨yE,0,none⟩) 0 0)) y (.string tx) (.slice none 0 0)) from by
      have q1:XB wB y (.string tx) (.slice none 0 0):=by rw [<-hwB];exact HXA.same (bS _ _ _ _ (by show y≠W.heap.size;omega))
      have q2:XB wC y (.string tx) (.slice none 0 0):=by rw [<-hwC];exact q1.same ((zaa wB _).block y q1.lt)
      exact q2.same (bS _ _ _ _ (by show y≠W.heap.size;omega)))
     have HK:Hid (∀j,j<y->j≠W.heap.size->(wC.setCell ⟨W.heap.size,4,none⟩ (.slice (some ⟨yE,0,none⟩) 0 0)).heap[j]?=w7.heap[j]?):=fun j h1 h2=>by
      have e1:wA.heap[j]?=w7.heap[j]?:=by rw [<-hwA];exact (zaa w7 _).block j (by omega)
      have e2:wB.heap[j]?=wA.heap[j]?:=by rw [<-hwB];exact bS _ _ _ _ h2
      have e3:wC.heap[j]?=wB.heap[j]?:=by rw [<-hwC];exact (zaa wB _).block j (by omega)
      exact (bS _ _ _ _ h2).trans (e3.trans (e2.trans e1))
     have HDD:Hid (DS E w0 (wC.setCell ⟨W.heap.size,4,none⟩ (.slice (some ⟨yE,0,none⟩) 0 0)) (.slice (some ⟨g,0,none⟩) E.l.length ct) b 0 (.slice (some ⟨yE,0,none⟩) 0 0) []):=by
      have hb0:=HD7.bl;have hlo:=HLo.out;have c1:bW w0 wC:=by
       rw [<-hwC];refine Below.alloc ?_ (by rw [hyE];have:=hb0.size;omega) _;rw [<-hwB];refine Below.setCell ?_ (p:=⟨W.heap.size,1,none⟩) hlo _;rw [<-hwA];exact hb0.alloc hb0.size _
      refine ⟨c1.setCell (p:=⟨W.heap.size,4,none⟩) hlo _,zaj HD7.t fun j hj=>HK j (by rw [<-hy];exact (HD7.t.lt j hj).2) (HB7.s.ne HD7.t (by decide) hj),⟨rfl,.inr ⟨yE,0,#[],rfl,by have:=hb0.size;omega,?_,nL _,Nat.zero_le _,rfl,rfl⟩⟩,HBd.2,Nat.zero_le _⟩;rw [bS _ _ _ _ (by show yE≠W.heap.size;omega),<-hwC,<-hyE];exact heap_alloc_new wB _
     have HEA:=hO hwA;have HEB:=hO hwB;have HEC:=hO hwC;obtain ⟨tk2,tk4⟩:=HTk _ _ _ HD7.out;obtain ⟨k0,k1,k2,k3,k4,k5,k6⟩:=HB7.s.cl;obtain ⟨n0,n1,n2,n3,n4,n5,n6⟩:=HBA.s.cl;have nf:=HBA.s.fz 1;obtain ⟨o0,o1,o2,o3,o4,o5,o6⟩:=HBC.s.cl;have of:=HBC.s.fz 4;clear hwA hwB hwC hyy hk7;go_wp2_with (first | rw [HEA.out] | rw [HEB.out] | rw [HEC.out])
     refine (HEx _ _ HDD.out).mono ?_;rintro e w8 ⟨i8,d8,A8,l8,c8,p8,q8,rfl,hr,hf⟩;obtain ⟨st8,hst8⟩:∃s,s=stR 0 [] (gN E 0 b 0):=⟨_,rfl⟩;rw [<-hst8] at hr hf;have hzD:=(HDD.o.lt yE rfl).2;have HK8:Hid (∀j,j<yE->w8.heap[j]?=(wC.setCell ⟨W.heap.size,4,none⟩ (.slice (some ⟨yE,0,none⟩) 0 0)).heap[j]?):=fun j hj=>hf.block j (by omega) (fun e=>by have:yE=j:=Option.some.inj e;omega)
     have HOw:Hid (∀j,(ow st8 (.slice A8 l8 c8)).ownBlock=some j->y<j):=fun j e=>by
      have h1:=HYs.1
      rcases hf.own j e with r | r
      ·have:yE=j:=Option.some.inj r
       omega
      ·omega
     have HB8:Hid (B4 W.heap.size w8 (.slice (some ⟨g,0,none⟩) E.l.length ct) b z 0 (.slice (some ⟨yE,0,none⟩) 0 0) 0 0 (.slice A2 l2 c2)):=HBD.kept fun j h1 h2=>HK8 j (by have:=HYs.out;omega)
     have HX8:Hid (XB w8 y (.string tx) (.slice none 0 0)):=HXD.same (HK8 y (by have:=HYs.out;omega));have HRv:Hid (Rv E z w0 (.slice (some ⟨g,0,none⟩) E.l.length ct) w8 st8 i8 d8 A8 l8 c8 p8 q8):=hr;have HS8:=hO hst8;have HSz:Hid (∀j,j<y->j≠W.heap.size->w8.heap[j]?=w7.heap[j]?):=fun j h1 h2=>(HK8 j (by have:=HYs.out;omega)).trans (HK j h1 h2)
     clear hr hf hst8 hzD HK8 HBA HBB HBC HBD HXA HXD HK HDD HEA HEB HEC HEx tk2 tk4 k0 k1 k2 k3 k4 k5 k6 n0 n1 n2 n3 n4 n5 n6 nf o0 o1 o2 o3 o4 o5 o6 of;obtain ⟨v8,hv8⟩:∃w,(((((((w8.setCell ⟨W.heap.size,0,none⟩ (.slice (some ⟨g,0,none⟩) E.l.length ct)).setCell ⟨W.heap.size,1,none⟩ (.int .i64 i8)).setCell ⟨W.heap.size,2,none⟩ (.int .i64 z)).setCell ⟨W.heap.size,3,none⟩ (.int .i64 d8)).setCell ⟨W.heap.size,4,none⟩ (.slice A8 l8 c8)).setCell ⟨W.heap.size,5,none⟩ (.int .i64 p8)).setCell ⟨W.heap.size,6,none⟩ (.int .i64 q8))=w:=⟨_,rfl⟩;obtain ⟨v9,hv9⟩:∃w,v8.setCell ⟨y,1,none⟩ (.slice A8 l8 c8)=w:=⟨_,rfl⟩;have HBs:Hid (B4 W.heap.size v8 (.slice (some ⟨g,0,none⟩) E.l.length ct) i8 z d8 (.slice A8 l8 c8) p8 q8 (.slice A2 l2 c2)):=by rw [<-hv8];exact HB8.st _ _ _ _ _ _ _
     have HXs:Hid (XB v8 y (.string tx) (.slice none 0 0)):=by rw [<-hv8];exact HX8.same (zaw _ _ _ _ _ _ _ (by have:=HYs.2;omega))
     have HB9:Hid (B4 W.heap.size v9 (.slice (some ⟨g,0,none⟩) E.l.length ct) i8 z d8 (.slice A8 l8 c8) p8 q8 (.slice A2 l2 c2)):=by rw [<-hv9];exact HBs.setO (by have:=HYs.2;omega) 1 _
     have HX9:Hid (XB v9 y (.string tx) (.slice A8 l8 c8)):=by rw [<-hv9];exact HXs.s1 _
     have HK9:Hid (∀j,j≠y->j≠W.heap.size->v9.heap[j]?=w8.heap[j]?):=fun j h1 h2=>by
      have e1:v8.heap[j]?=w8.heap[j]?:=by rw [<-hv8];exact zaw _ _ _ _ _ _ _ h2
      have e2:v9.heap[j]?=v8.heap[j]?:=by rw [<-hv9];exact bS _ _ _ _ h1
      exact e2.trans e1
     have HZ9:Hid (v9.heap.size=w8.heap.size):=by
      show v9.heap.size=_
      rw [<-hv9,World.size_setCell,<-hv8];exact zem _ _ _ _ _ _ _ _ _
     have HBl9:Hid (bW w0 w8->bW w0 v9):=fun hb=>by
      rw [<-hv9,<-hv8];exact (zaq hb HLo _ _ _ _ _ _ _).setCell (p:=⟨y,1,none⟩) (by have h1:=HYs.2;have h2:=HLo.out;show _<=y;omega) _
     have HO9:Hid (v9.ownsRow w0.heap.size 57 2 (.slice A2 l2 c2) ov.length (grc ov)):=zaj HR7.1 fun j hj=>by
      have h1:=(HR7.1.lt j hj).2;rw [hy] at h1;have h2:=HB7.s.ne HR7.1 (by decide) hj;exact (HK9 j (by omega) h2).trans (HSz j h1 h2)
     have HEs:=hO hv8;have HE9:=hO hv9;have hs9:w0.heap.size<=v9.heap.size:=by have h1:=HB9.g.lt;have h2:=HLo.out;omega
     obtain ⟨k0,k1,k2,k3,k4,k5,k6⟩:=HB8.s.cl;obtain ⟨f0,f1,f2,f3,f4,f5,f6⟩:=HB8.s.fzs;obtain ⟨h0,h1,h2,h3,h4,h5,h6⟩:=HBs.s.cl;obtain ⟨xs0,xs1⟩:=HXs.cl;have xf:=HXs.fz 1;obtain ⟨x90,x91⟩:=HX9.cl;have g9:=HB9.g.cl;clear hv8 hv9;go_wp2_with (first | rw [HEs.out] | rw [HE9.out] | (at_builtin;refine wpList_append_lies _ rfl _ _ 22 rfl w0.heap.size 57 i0 (.agg #[.string ⟨#[]⟩,.slice none 0 0]) 2 40 Tryz.underlying22 hinf hz0 hz1 hz2 rfl (by decide) _ _ _ rfl (HO9.alloc _) ⟨v9.heap.size,0,none⟩ 1 1 [.string tx,.slice A8 l8 c8] rfl rfl ?c1 ?c2 (by decide) ?c3 ?c4 ?c5 (v9.heap.size+1) (by simp) ?_))
     case c1=>exact World.news_of_block (cs:=#[.string tx,.slice A8 l8 c8]) (t:=57) (fr:=(0,0)) (heap_alloc_new v9 _)
     case c2=>intro u hu;simp only [List.mem_cons,List.not_mem_nil,or_false] at hu;rcases hu with rfl | rfl <;> rfl
     case c3=>have:=hNb.out;unfold maxLen;omega
     case c4=>have:=hNb.out;omega
     case c5=>rw [sA];omega
     intro g10 cap10 w10 hown10 hgrow10 hat10 hlt10;have HB10:Hid (B4 W.heap.size w10 (.slice (some ⟨g,0,none⟩) E.l.length ct) i8 z d8 (.slice A8 l8 c8) p8 q8 (.slice A2 l2 c2)):=(HB9.later (zaa _ _)).grow (HO9.alloc _) (by decide) (by decide) hgrow10;have HK10:Hid (∀j,j<v9.heap.size->(Value.slice A2 l2 c2).ownBlock≠some j->w10.heap[j]?=v9.heap[j]?):=fun j h1 h2=>(hgrow10.block j (by rw [sA];omega) (fun e=>h2 e.symm)).trans ((zaa v9 _).block j h1)
     have HL10:Hid (bW w0 v9->bW w0 w10):=fun hb=>(hb.alloc hs9 _).grown hgrow10 (by rw [sA];omega) (fun k e=>(HO9.lt k e).1)
     have HO10:=hO hown10;clear hown10 hgrow10 hat10 hlt10;have HSt:Hid (∀j,j≠W.heap.size+3->(w10.setCell ⟨W.heap.size+3,0,none⟩ (.slice (some ⟨g10,0,none⟩) (ov.length+1) cap10)).heap[j]?=w10.heap[j]?):=fun j h=>bS _ _ _ _ h
     have HOld:Hid (∀j,j<y->j≠W.heap.size->j≠W.heap.size+3->(Value.slice A2 l2 c2).ownBlock≠some j->(w10.setCell ⟨W.heap.size+3,0,none⟩ (.slice (some ⟨g10,0,none⟩) (ov.length+1) cap10)).heap[j]?=w7.heap[j]?):=fun j h1 h2 h3 h4=>(HSt j h3).trans ((HK10 j (by rw [HZ9.out];have q1:=HX8.lt;omega) h4).trans ((HK9 j (by omega) h2).trans (HSz j h1 h2)))
     have HRvF:Hid (Rv E z w0 (.slice (some ⟨g,0,none⟩) E.l.length ct) (w10.setCell ⟨W.heap.size+3,0,none⟩ (.slice (some ⟨g10,0,none⟩) (ov.length+1) cap10)) st8 i8 d8 A8 l8 c8 p8 q8):=by
      refine HRv.moved (fun hb=>(HL10 (HBl9 hb)).setCell (p:=⟨W.heap.size+3,0,none⟩) (by have:=HLo.out;show _<=W.heap.size+3;omega) _) (fun j hj=>?_) (fun j hj=>?_)
      ·have q1:=(HD7.t.lt j hj).2
       rw [hy] at q1;have q2:=HB7.s.ne HD7.t (by decide) hj;have q3:=HB7.g.ne HD7.t (by decide) hj;exact (HOld j q1 q2 q3 (fun e=>za2 HD7.t HR7.1 (by decide) hj e)).trans (HSz j q1 q2).symm
      ·have q1:=HOw j hj
       have q2:=HYs.2;have q3:=HRv.olt hj;refine (HSt j (by omega)).trans ((HK10 j (by rw [HZ9.out];exact q3) (fun e=>?_)).trans (HK9 j (by omega) (by omega)));have:=(HR7.1.lt j e).2;omega
     have HLd:Hid (LdS E z w0 (.slice (some ⟨g,0,none⟩) E.l.length ct) W.heap.size R0 (w10.setCell ⟨W.heap.size+3,0,none⟩ (.slice (some ⟨g10,0,none⟩) (ov.length+1) cap10)) (.slice (some ⟨g7,0,none⟩) (ov.length+1) cap7) st8 i8 d8 A8 l8 c8 p8 q8 (.slice (some ⟨g10,0,none⟩) (ov.length+1) cap10)/\mD W.heap.size E.l.length (w10.setCell ⟨W.heap.size+3,0,none⟩ (.slice (some ⟨g10,0,none⟩) (ov.length+1) cap10))<E.l.length+1 - a):=by
      have hBF:=HB10.sg (.slice (some ⟨g10,0,none⟩) (ov.length+1) cap10);have hs8:=HS8.out;have hRv:=HRvF.out;have hOw:=HOw.out
      cases hg:gN E 0 b 0 with
      | inr q =>
       have e1:st8=.inr q:=by rw [hs8,hg];rfl
       subst e1;refine ⟨⟨hBF,hRv,⟨_,_,_,rfl⟩,?_⟩,?_⟩
       ·show R0=.inr q
        rw [HG2.out,hg]
       ·have h1:=HBd.out
        rw [mDb_no hBF.s (by rw [hRv.1];exact HEr q hg)];omega
      | inl p =>
       have e1:st8=.inl (p.1,0,p.2):=by rw [hs8,hg];rfl
       subst e1;have hA:=HAd p hg;have h1:=HBd.out;have h2:=HNf.out;have hi8:i8=(p.1:Int)/\q8=0:=⟨hRv.2.2.1,hRv.1⟩;refine ⟨⟨hBF,hRv,⟨_,_,_,rfl⟩,rfl,ov++[((a,tx,p.2),.slice A8 l8 c8)],f,⟨?_,?_,?_⟩,?_,?_,?_⟩,?_⟩
       ·rw [lA,zfl,zk6]
        exact zaj HO10 fun j hj=>HSt j (HB10.g.ne HO10 (by decide) hj)
       ·rw [lA,show plW E z (ov++[((a,tx,p.2),.slice A8 l8 c8)])=plW E z ov++[.int .i64 pl] from by unfold plW;rw [List.map_append];show _++[Value.int .i64 (plA E z a)]=_;rw [HPl.out]]
        refine zaj HP7 fun j hj=>HOld j (by rw [<-hy];exact (HP7.lt j hj).2) (HB7.s.ne HP7 (by decide) hj) (HB7.g.ne HP7 (by decide) hj) (fun e=>za2 HP7.out HR7.1 (by decide) hj e)
       ·refine Bds.push (HR7.2.same fun x hx j hj=>HOld j (by rw [<-hy];exact ((HR7.2.e x hx).lt j hj).2) (HB7.s.ne (HR7.2.e x hx) (by decide) hj) (HB7.g.ne (HR7.2.e x hx) (by decide) hj) (fun e=>za2 (HR7.2.e x hx) HR7.1 (by decide) hj e)) _ (by have h5:=hRv.2.2.2.2.1;have h6:=hRv.2.2.2.2.2.o;rw [h5] at h6 ⊢;exact h6) fun x hx j hj e=>?_
        have q1:=((HR7.2.e x hx).lt j hj).2;have q2:=hOw j e;omega
       ·rw [lA]
        show ov.length+1<=p.1
        omega
       ·show E.l.length<f+p.1
        omega
       ·rw [HG2.out,hg,List.map_append]
        rfl
       ·obtain ⟨e3,e4⟩:=hi8
        subst e3 e4;rw [znu hBF.s];omega
     have q10:=HB10.g.cl;have qf10:=HB10.g.fz;clear HOld HSt HRvF HK10 HL10 HO10 HB10 HO9 HBl9 HZ9 HK9 HX9 HB9 HXs HBs HEs HE9 HSz HS8 HRv HX8 HB8 HOw;go_wp2_with fail;go_roundw
     case rel=>exact ⟨_,_,_,_,_,_,_,_,_,HLd.1⟩
     case measure =>
      rw [HM.out];exact HLd.2
    | false =>
     have HV:Hid (R0=.inr (a,60)):=by
      show R0=_
      rw [HG.out,iP hlt,iN (by rw [hru];decide)]
     obtain ⟨pl6,hpl6⟩:∃x,plA E z a=x:=⟨_,rfl⟩;have HFl:Hid (∀W',bW w6 W'->Cl 26 #[rdV (.slice (some ⟨g,0,none⟩) E.l.length ct) a z 0 (.slice A1 l1 c1) 0 0,.int .i64 60] W' (rB W' (rdV (.slice (some ⟨g,0,none⟩) E.l.length ct) a z 0 (.slice A1 l1 c1) pl6 60))):=fun W' hW=>by
      have:=zbl (HD6.later hW) z 0 0 60;rw [hpl6] at this;exact this
     have HP6:=hO hpl6;have HL6:Hid (bW w0 w6):=HD6.bl;clear HG hlt hru hpl6 HR6 HD6;have HBR:=HB6;obtain ⟨k0,k1,k2,k3,k4,k5,k6⟩:=HBR.s.cl;go_wp2_with fail;clear k0 k1 k2 k3 k4 k5 k6;have HS:Hid (∀w',bW w6 w'->(w'.cell? ⟨W.heap.size,0,none⟩=some (.slice (some ⟨g,0,none⟩) E.l.length ct)/\w'.cell? ⟨W.heap.size,1,none⟩=some (.int .i64 a)/\w'.cell? ⟨W.heap.size,2,none⟩=some (.int .i64 z)/\w'.cell? ⟨W.heap.size,3,none⟩=some (.int .i64 0)/\w'.cell? ⟨W.heap.size,4,none⟩=some (.slice A1 l1 c1)/\w'.cell? ⟨W.heap.size,5,none⟩=some (.int .i64 0)/\w'.cell? ⟨W.heap.size,6,none⟩=some (.int .i64 0))/\(w'.frozen? ⟨W.heap.size+1,0,none⟩=false/\w'.frozen? ⟨W.heap.size+1,1,none⟩=false/\w'.frozen? ⟨W.heap.size+1,2,none⟩=false/\w'.frozen? ⟨W.heap.size+1,3,none⟩=false/\w'.frozen? ⟨W.heap.size+1,4,none⟩=false/\w'.frozen? ⟨W.heap.size+1,5,none⟩=false/\w'.frozen? ⟨W.heap.size+1,6,none⟩=false)/\w'.frozen? ⟨W.heap.size+2,0,none⟩=false/\w'.cell? ⟨W.heap.size+3,0,none⟩=some (.slice A2 l2 c2)):=fun w' hb=>⟨(HBR.later hb).s.cl,(HBR.later hb).r.fzs,(HBR.later hb).o.fz,(HBR.later hb).g.cl⟩
     have HRc:=(show Hid _ from fun w' (hb:bW w6 w')=>(HBR.later hb).r.cl);have HOc:=(show Hid _ from fun w' (hb:bW w6 w')=>(HBR.later hb).o.cl);obtain ⟨⟨k0,k1,k2,k3,k4,k5,k6⟩,_,_,cg⟩:=HS w6.drew (bR _ _).drew;go_region_law (refine ziK zmR rfl _ _ _ _ (by rfl) (rdV (.slice (some ⟨g,0,none⟩) E.l.length ct) a z 0 (.slice A1 l1 c1) 0 0) (.int .i64 60) (by rfl) (by rfl) ?_;with_reducible refine (HFl.out _ (bR _ _).drew).mono ?_;rintro e wA ⟨rfl,bA⟩;refine ⟨_,rfl,?_⟩;have hb8:bW w6 wA:=(bR _ _).drew.trans (bA.mono (show w6.heap.size<=w6.drew.heap.size from nL _));obtain ⟨⟨h0,h1,h2,h3,h4,h5,h6⟩,⟨j0,j1,j2,j3,j4,j5,j6⟩,jo,jg⟩:=HS.out wA hb8;obtain ⟨m0,m1,m2,m3,m4,m5,m6⟩:=HRc.out wA hb8;have mo:=HOc.out wA hb8)
     all_goals
      go_wp2_with fail;have hB:=HBR.later hb8;have hF:=hB.fin (.slice (some ⟨g,0,none⟩) E.l.length ct) (.int .i64 a) (.int .i64 z) (.int .i64 0) (.slice A1 l1 c1) (.int .i64 pl6) (.int .i64 60) (.slice A2 l2 c2);refine zeQ rfl rfl rfl rfl rfl hF.1 hF.2 ?_
      show RdD E z w0 (.slice (some ⟨g,0,none⟩) E.l.length ct) R0 _ _
      rw [HV.out];exact ⟨_,_,_,_,_,_,_,_,_,by rw [<-HP6.out],(zaq (HL6.trans (hb8.mono HL6.size)) (k:=W.heap.size+1) (by have:=HLo.out;omega) _ _ _ _ _ _ _).setCell (p:=⟨W.heap.size+1+1,0,none⟩) (by have:=HLo.out;show _<=W.heap.size+1+1;omega) _⟩
   ·have t1:¬(a:Int)<(E.l.length:Int):=by omega
    have HV:Hid (R0=.inl (ov.map (·.1))):=by
     show R0=_
     rw [HG.out,iN hlt]
    clear HG HRu hlt;go_wp2_with fail;refine (HOk4 _).mono ?_;rintro e w5 ⟨rfl,hb⟩;have HBR:=hO (HB4.later hb);have HR5:=hO (HR4.later hb);have HL5:Hid (bW w0 w5):=(HD4.later hb).bl;clear hb HOk4 HB4 HD4 HR4 k0 k1 k2 k3 k4 k5 k6;obtain ⟨k0,k1,k2,k3,k4,k5,k6⟩:=HBR.s.cl;go_wp2_with fail;clear k0 k1 k2 k3 k4 k5 k6;obtain ⟨k0,k1,k2,k3,k4,k5,k6⟩:=HBR.s.cl;obtain ⟨f0,f1,f2,f3,f4,f5,f6⟩:=HBR.r.fzs;obtain ⟨m0,m1,m2,m3,m4,m5,m6⟩:=HBR.r.cl;have fo:=HBR.o.fz;have mo:=HBR.o.cl;have cg:=HBR.g.cl;go_region
    all_goals
     go_wp2_with fail;have hF:=HBR.fin (.slice (some ⟨g,0,none⟩) E.l.length ct) (.int .i64 a) (.int .i64 z) (.int .i64 0) (.slice A1 l1 c1) (.int .i64 0) (.int .i64 0) (.slice A2 l2 c2);have hF1:=hF.1.drew;have hF2:=hF.2.drew;have hF3:bW w0 (World.drew ((st7 w5 (W.heap.size+1) (.slice (some ⟨g,0,none⟩) E.l.length ct) (.int .i64 a) (.int .i64 z) (.int .i64 0) (.slice A1 l1 c1) (.int .i64 0) (.int .i64 0)).setCell ⟨W.heap.size+1+1,0,none⟩ (.slice A2 l2 c2))):=((zaq HL5 (k:=W.heap.size+1) (by have:=HLo.out;omega) (.slice (some ⟨g,0,none⟩) E.l.length ct) (.int .i64 a) (.int .i64 z) (.int .i64 0) (.slice A1 l1 c1) (.int .i64 0) (.int .i64 0)).setCell (p:=⟨W.heap.size+1+1,0,none⟩) (by have:=HLo.out;show _<=W.heap.size+1+1;omega) (.slice A2 l2 c2)).drew;refine zeQ rfl rfl rfl rfl rfl hF1 hF2 ?_
     show RdD E z w0 (.slice (some ⟨g,0,none⟩) E.l.length ct) R0 _ _
     rw [HV.out];have hfin:=HR5.fin HBR (.slice (some ⟨g,0,none⟩) E.l.length ct) (.int .i64 a) (.int .i64 z) (.int .i64 0) (.slice A1 l1 c1) (.int .i64 0) (.int .i64 0) (.slice A2 l2 c2);have hfin2:=hfin.drew;exact ⟨_,_,_,_,_,_,_,ov,rfl,rfl,hfin2.o,hfin2.b,hfin2.p,hF3⟩
  ·have HB4:=hO HL.1
   have h9:q3=qq.2/\p3=plA E z qq.1/\qq.2≠0/\bW w0 wr:=HL.2.1;have HQ:Hid (p3=plA E z qq.1/\q3=qq.2):=⟨h9.2.1,h9.1⟩;have HV:Hid (R0=.inr qq):=HL.2.2.2;have HBl:Hid (bW w0 wr):=h9.2.2.2;have HOk4:Hid (∀W,Cl 15 #[rdV (.slice (some ⟨g,0,none⟩) E.l.length ct) i3 z d3 (.slice A1 l1 c1) p3 q3] W (rB W (.bool false))):=fun W=>by
    have:=HOk i3 d3 A1 l1 c1 p3 q3 W;rw [show (q3==0)=false from by rw [h9.1];simpa using h9.2.2.1] at this;exact this
   clear HL h9 HOk HRu;obtain ⟨k0,k1,k2,k3,k4,k5,k6⟩:=HB4.s.cl;go_wp2_with fail;refine (HOk4 _).mono ?_;rintro e w5 ⟨rfl,hb⟩;have HBR:=hO (HB4.later hb);have HL5:Hid (bW w0 w5):=HBl.trans (hb.mono HBl.size);clear hb HOk4 HB4 HBl k0 k1 k2 k3 k4 k5 k6;obtain ⟨k0,k1,k2,k3,k4,k5,k6⟩:=HBR.s.cl;go_wp2_with fail;clear k0 k1 k2 k3 k4 k5 k6;obtain ⟨k0,k1,k2,k3,k4,k5,k6⟩:=HBR.s.cl;obtain ⟨f0,f1,f2,f3,f4,f5,f6⟩:=HBR.r.fzs;obtain ⟨m0,m1,m2,m3,m4,m5,m6⟩:=HBR.r.cl;have fo:=HBR.o.fz;have mo:=HBR.o.cl;have cg:=HBR.g.cl;go_region
   all_goals
    go_wp2_with fail;have hF:=HBR.fin (.slice (some ⟨g,0,none⟩) E.l.length ct) (.int .i64 i3) (.int .i64 z) (.int .i64 d3) (.slice A1 l1 c1) (.int .i64 p3) (.int .i64 q3) (.slice A2 l2 c2);have hF1:=hF.1.drew;have hF2:=hF.2.drew;have hF3:bW w0 (World.drew ((st7 w5 (W.heap.size+1) (.slice (some ⟨g,0,none⟩) E.l.length ct) (.int .i64 i3) (.int .i64 z) (.int .i64 d3) (.slice A1 l1 c1) (.int .i64 p3) (.int .i64 q3)).setCell ⟨W.heap.size+1+1,0,none⟩ (.slice A2 l2 c2))):=((zaq HL5 (k:=W.heap.size+1) (by have:=HLo.out;omega) (.slice (some ⟨g,0,none⟩) E.l.length ct) (.int .i64 i3) (.int .i64 z) (.int .i64 d3) (.slice A1 l1 c1) (.int .i64 p3) (.int .i64 q3)).setCell (p:=⟨W.heap.size+1+1,0,none⟩) (by have:=HLo.out;show _<=W.heap.size+1+1;omega) (.slice A2 l2 c2)).drew;refine zeQ rfl rfl rfl rfl rfl hF1 hF2 ?_
    show RdD E z w0 (.slice (some ⟨g,0,none⟩) E.l.length ct) R0 _ _
    rw [HV.out];exact ⟨_,_,_,_,_,_,_,_,_,by rw [<-HQ.1,<-HQ.2],hF3⟩
theorem zeR {E:PE} (hE:OkE E) {z:Nat} {w0 W:World} {At:Option Addr} {ct:Nat} (h:DS E w0 W (.slice At E.l.length ct) 0 0 (.slice none 0 0) []):Cl 14 #[rdV (.slice At E.l.length ct) 0 z 0 (.slice none 0 0) 0 0] W fun e W'=>RdD E z w0 (.slice At E.l.length ct) (rdN E) e W':=by
 cases hr:ruB E 0 with
 | true=>exact zmS hE h hr
 | false =>
  rw [zgo (by rw [hr];decide)];exact zmQ hE h hr
theorem zmT (v:Value) (w:World):(Instr.typeAssert (.iface 27 v) 20 27 true).run Tryz.prog w=.ok (.tuple #[v,.bool true]) w:=by kernel_rfl
theorem ret_fx {fn:Func} {R:Ending->World->Prop} {a:Act} {W:World} {b:Nat} {p e:Int} (hF:fn.results=#[.cell 2 27]) (hd:a.defers=[]) (h2:a.tmps.getD 2 undef=.pointer (some ⟨b,0,none⟩)) (hT:FX W b p e) (hR:R (.returned (.agg #[.int .i64 p,.int .i64 e])) W):bodyPost Tryz.prog fn R .ret a W:=by
 have c0:=hT.c0;have c1:=hT.c1;refine bodyPost_ret (v:=.agg #[.int .i64 p,.int .i64 e]) ?_ hd hR;simp only [Array.getD_eq_getD_getElem?] at h2;simp [results,hF,go_sem,h2,c0,c1]
abbrev fxZ:Obj:=.cells #[.int .i64 0,.int .i64 0] 27
theorem zfm (a c:Int) (W:World):Cl 18 #[.iface 27 (.agg #[.int .i64 a,.int .i64 c])] W (rB W (.agg #[.int .i64 a,.int .i64 c])):=by
 have has:=zmT;have hnot:∀(x:Bool) (w:World),(Op.unary .not (.bool x)).run Tryz.prog w=.ok (.bool (!x)) w:=fun _ _=>rfl
 go_enter Tryz.func18,Tryz.ntmps18;go_wp2_with fail;refine ret_fx (b:=W.heap.size) (p:=a) (e:=c) rfl rfl rfl ((FX.mk (heap_alloc_new W _)).below (zaa _ _)) ⟨rfl,((bR _ _).alloc (nL _) _).alloc (by rw [sA];omega) _⟩
theorem zgu (p:Nat) (x y a c:Int) (older:List PanicEntry) (w:World) (hx:FX w p x y) :
  CallsD Tryz.prog 17 #[.pointer (some ⟨p,0,none⟩)] (.panicking ({ v:=.iface 27 (.agg #[.int .i64 a,.int .i64 c]),recovered:=false }::older)) w fun e u' w' =>
   e=.returned (.tuple #[])/\u'=.panicking ({ v:=.iface 27 (.agg #[.int .i64 a,.int .i64 c]),recovered:=true }::older)/\FX w' p a c/\Fr w w' p (.slice none 0 0) (.slice none 0 0)/\Below p w w':=by
 have HR:Hid (∀W,Cl 18 #[.iface 27 (.agg #[.int .i64 a,.int .i64 c])] W (rB W (.agg #[.int .i64 a,.int .i64 c]))):=fun W=>zfm a c W
 have HX:Hid (FX w p x y):=hx;refine callsD_of_wpS Tryz.func17 rfl fun c₀ cs hu=>?_
 apply wpS_seq
 apply wpS_region
 simp [wpOpsS,go_sem,recoverD,hu,Tryz.ntmps17,Exit.thenS]
 refine wpS_of_wp ?_;have ht:(#[Value.pointer (some ⟨p,0,none⟩)]++((Array.replicate 6 undef).setIfInBounds 1 (.iface 27 (.agg #[.int .i64 a,.int .i64 c]))).setIfInBounds 0 (.iface 27 (.agg #[.int .i64 a,.int .i64 c])):Array Value)=#[.pointer (some ⟨p,0,none⟩),.iface 27 (.agg #[.int .i64 a,.int .i64 c]),.iface 27 (.agg #[.int .i64 a,.int .i64 c]),undef,undef,undef,undef]:=rfl;rw [ht];clear ht hu hx;go_wp2_with fail;refine (HR _).mono ?_;rintro e w1 ⟨rfl,hb⟩;have H1:=hO (HX.below hb);have HB:Hid (bW w w1):=hb;have hlt:=HX.lt;clear hb HR HX;have c0:=H1.c0;have c1:=H1.c1;have f0:=H1.f0;have f1':=H1.f1;go_wp2_with fail;refine ⟨rfl,_,rfl,.tuple #[],(by simp [results,Tryz.results17]),rfl,rfl,zew H1 a c,(Fr.below p _ HB.out).trans ((Fr.set _ _ _ _ _).trans (Fr.set _ _ _ _ _)),zcp (HB.mono (Nat.le_of_lt hlt)) (nL _) a c⟩
theorem zhk (p:Nat) (w:World) :
  CallsD Tryz.prog 17 #[.pointer (some ⟨p,0,none⟩)] .returning w fun e u' w'=>e=.returned (.tuple #[])/\u'=.returning/\w'=w:=by
 refine callsD_of_wpS Tryz.func17 rfl fun c₀ cs hu=>?_
 apply wpS_seq
 apply wpS_region
 simp [wpOpsS,go_sem,recoverD,hu,Tryz.ntmps17,Exit.thenS]
 refine wpS_of_wp ?_;have ht:(#[Value.pointer (some ⟨p,0,none⟩)]++((Array.replicate 6 undef).setIfInBounds 1 Value.nilIface).setIfInBounds 0 Value.nilIface:Array Value)=#[.pointer (some ⟨p,0,none⟩),.nilIface,.nilIface,undef,undef,undef,undef]:=rfl;rw [ht];have HC:Hid (c₀::cs={ c₀ with mode:=.returning }::cs):=by show _=_;rw [<-hu]
 clear ht hu;go_wp2_with fail;exact ⟨rfl,_,HC.out,.tuple #[],(by simp [results,Tryz.results17]),rfl,rfl,rfl⟩
theorem zgv (p:Nat) (x y a c:Int) (older:List PanicEntry) (w:World) (hx:FX w p x y) :
  CallsD Tryz.prog 24 #[.pointer (some ⟨p,0,none⟩)] (.panicking ({ v:=.iface 27 (.agg #[.int .i64 a,.int .i64 c]),recovered:=false }::older)) w fun e u' w' =>
   e=.returned (.tuple #[])/\u'=.panicking ({ v:=.iface 27 (.agg #[.int .i64 a,.int .i64 c]),recovered:=true }::older)/\FX w' p a c/\Fr w w' p (.slice none 0 0) (.slice none 0 0)/\Below p w w':=by
 have HR:Hid (∀W,Cl 18 #[.iface 27 (.agg #[.int .i64 a,.int .i64 c])] W (rB W (.agg #[.int .i64 a,.int .i64 c]))):=fun W=>zfm a c W
 have HX:Hid (FX w p x y):=hx;refine callsD_of_wpS Tryz.func24 rfl fun c₀ cs hu=>?_
 apply wpS_seq
 apply wpS_region
 simp [wpOpsS,go_sem,recoverD,hu,Tryz.ntmps24,Exit.thenS]
 refine wpS_of_wp ?_;have ht:(#[Value.pointer (some ⟨p,0,none⟩)]++((Array.replicate 6 undef).setIfInBounds 1 (.iface 27 (.agg #[.int .i64 a,.int .i64 c]))).setIfInBounds 0 (.iface 27 (.agg #[.int .i64 a,.int .i64 c])):Array Value)=#[.pointer (some ⟨p,0,none⟩),.iface 27 (.agg #[.int .i64 a,.int .i64 c]),.iface 27 (.agg #[.int .i64 a,.int .i64 c]),undef,undef,undef,undef]:=rfl;rw [ht];clear ht hu hx;go_wp2_with fail;refine (HR _).mono ?_;rintro e w1 ⟨rfl,hb⟩;have H1:=hO (HX.below hb);have HB:Hid (bW w w1):=hb;have hlt:=HX.lt;clear hb HR HX;have c0:=H1.c0;have c1:=H1.c1;have f0:=H1.f0;have f1':=H1.f1;go_wp2_with fail;refine ⟨rfl,_,rfl,.tuple #[],(by simp [results,Tryz.results24]),rfl,rfl,zew H1 a c,(Fr.below p _ HB.out).trans ((Fr.set _ _ _ _ _).trans (Fr.set _ _ _ _ _)),zcp (HB.mono (Nat.le_of_lt hlt)) (nL _) a c⟩
theorem zhl (p:Nat) (w:World) :
  CallsD Tryz.prog 24 #[.pointer (some ⟨p,0,none⟩)] .returning w fun e u' w'=>e=.returned (.tuple #[])/\u'=.returning/\w'=w:=by
 refine callsD_of_wpS Tryz.func24 rfl fun c₀ cs hu=>?_
 apply wpS_seq
 apply wpS_region
 simp [wpOpsS,go_sem,recoverD,hu,Tryz.ntmps24,Exit.thenS]
 refine wpS_of_wp ?_;have ht:(#[Value.pointer (some ⟨p,0,none⟩)]++((Array.replicate 6 undef).setIfInBounds 1 Value.nilIface).setIfInBounds 0 Value.nilIface:Array Value)=#[.pointer (some ⟨p,0,none⟩),.nilIface,.nilIface,undef,undef,undef,undef]:=rfl;rw [ht];have HC:Hid (c₀::cs={ c₀ with mode:=.returning }::cs):=by show _=_;rw [<-hu]
 clear ht hu;go_wp2_with fail;exact ⟨rfl,_,HC.out,.tuple #[],(by simp [results,Tryz.results24]),rfl,rfl,rfl⟩
theorem zk7 {R:Ending->World->Prop} {act:Act} {W:World} {k:Nat} {p c x y:Int} (hd:act.defers=[{ target:=.fn (.func 17) #[.pointer (some ⟨k+1,0,none⟩)],args:=#[] }]) (h2:act.tmps.getD 2 undef=.pointer (some ⟨k,0,none⟩)) (h3:act.tmps.getD 3 undef=.pointer (some ⟨k+1,0,none⟩)) (hg:GX W k (.slice none 0 0)) (hf:FX W (k+1) x y)
  (hR:∀W',Below k W W'->R (.returned (.tuple #[.agg #[.slice none 0 0],.agg #[.int .i64 p,.int .i64 c]])) W') :
  bodyPostD Tryz.prog Tryz.f5 R (.panic [{ v:=.iface 27 (.agg #[.int .i64 p,.int .i64 c]),recovered:=false }]) act W:=by
 show Leaves _ _ _ _ act.defers _ _
 rw [hd];refine leaves_cons (f:=17) (args:=#[.pointer (some ⟨k+1,0,none⟩)]) (by simp) (by simp [go_sem]) ?_;refine (zgu (k+1) x y p c [] W hf).mono ?_;rintro e u' w' ⟨rfl,rfl,h4,h5,h6⟩;have hg':GX w' k (.slice none 0 0):=hg.same (h5.block k hg.lt (by omega) (by intro q;cases q));have c0:=hg'.cl;have d0:=h4.c0;have d1:=h4.c1;simp only [Array.getD_eq_getD_getElem?] at h2 h3;refine ⟨.tuple #[.agg #[.slice none 0 0],.agg #[.int .i64 p,.int .i64 c]],?_,hR w' (h6.mono (Nat.le_succ k))⟩;simp [results,Tryz.results5,go_sem,h2,h3,c0,d0,d1]
theorem doorR {R:Ending->World->Prop} {act:Act} {W:World} {k:Nat} {p c:Int} {v:Value} (hd:act.defers=[{ target:=.fn (.func 17) #[.pointer (some ⟨k+1,0,none⟩)],args:=#[] }]) (h2:act.tmps.getD 2 undef=.pointer (some ⟨k,0,none⟩)) (h3:act.tmps.getD 3 undef=.pointer (some ⟨k+1,0,none⟩)) (hg:GX W k v) (hf:FX W (k+1) p c)
  (hR:R (.returned (.tuple #[.agg #[v],.agg #[.int .i64 p,.int .i64 c]])) W) :
  bodyPostD Tryz.prog Tryz.f5 R .ret act W:=by
 show Leaves _ _ _ _ act.defers _ _
 rw [hd];refine leaves_cons (f:=17) (args:=#[.pointer (some ⟨k+1,0,none⟩)]) (by simp) (by simp [go_sem]) ?_;refine (zhk (k+1) W).mono ?_;rintro e u' w' ⟨rfl,rfl,rfl⟩;have c0:=hg.cl;have d0:=hf.c0;have d1:=hf.c1;simp only [Array.getD_eq_getD_getElem?] at h2 h3;refine ⟨.tuple #[.agg #[v],.agg #[.int .i64 p,.int .i64 c]],?_,hR⟩;simp [results,Tryz.results5,go_sem,h2,h3,c0,d0,d1]
theorem zpp {R:Ending->World->Prop} {act:Act} {W:World} {k:Nat} {p c x y:Int} (hd:act.defers=[{ target:=.fn (.func 24) #[.pointer (some ⟨k,0,none⟩)],args:=#[] }]) (h2:act.tmps.getD 2 undef=.slice none 0 0) (h3:act.tmps.getD 3 undef=.pointer (some ⟨k,0,none⟩)) (hf:FX W k x y)
  (hR:∀W',Below k W W'->R (.returned (.tuple #[.slice none 0 0,.agg #[.int .i64 p,.int .i64 c]])) W') :
  bodyPostD Tryz.prog Tryz.f9 R (.panic [{ v:=.iface 27 (.agg #[.int .i64 p,.int .i64 c]),recovered:=false }]) act W:=by
 show Leaves _ _ _ _ act.defers _ _
 rw [hd];refine leaves_cons (f:=24) (args:=#[.pointer (some ⟨k,0,none⟩)]) (by simp) (by simp [go_sem]) ?_;refine (zgv k x y p c [] W hf).mono ?_;rintro e u' w' ⟨rfl,rfl,h4,h5,h6⟩;have d0:=h4.c0;have d1:=h4.c1;simp only [Array.getD_eq_getD_getElem?] at h2 h3;refine ⟨.tuple #[.slice none 0 0,.agg #[.int .i64 p,.int .i64 c]],?_,hR w' h6⟩;simp [results,Tryz.results9,go_sem,h2,h3,d0,d1]
theorem doorB {R:Ending->World->Prop} {act:Act} {W:World} {k:Nat} {p c:Int} {v:Value} (hd:act.defers=[{ target:=.fn (.func 24) #[.pointer (some ⟨k,0,none⟩)],args:=#[] }]) (h2:act.tmps.getD 2 undef=v) (h3:act.tmps.getD 3 undef=.pointer (some ⟨k,0,none⟩)) (hf:FX W k p c)
  (hR:R (.returned (.tuple #[v,.agg #[.int .i64 p,.int .i64 c]])) W) :
  bodyPostD Tryz.prog Tryz.f9 R .ret act W:=by
 show Leaves _ _ _ _ act.defers _ _
 rw [hd];refine leaves_cons (f:=24) (args:=#[.pointer (some ⟨k,0,none⟩)]) (by simp) (by simp [go_sem]) ?_;refine (zhl k W).mono ?_;rintro e u' w' ⟨rfl,rfl,rfl⟩;have d0:=hf.c0;have d1:=hf.c1;simp only [Array.getD_eq_getD_getElem?] at h2 h3;refine ⟨.tuple #[v,.agg #[.int .i64 p,.int .i64 c]],?_,hR⟩;simp [results,Tryz.results9,go_sem,h2,h3,d0,d1]
theorem zk8 (s:ByteArray) (w:World) (hg:GW w) (q:Nat×Int) (hq:zbf (zaL s) s=.inr q):Cl 5 #[.string s] w (rB w (.tuple #[.agg #[.slice none 0 0],.agg #[.int .i64 q.1,.int .i64 q.2]])):=by
 have hmf:∀(fn:Fn) (first cap:Array Value) (w:World),(Instr.makeFunc fn first cap).run Tryz.prog w=.ok (.func fn first cap) w:=fun _ _ _ _=>rfl
 have HB0:Hid (bW w ((w.alloc (.cells #[.slice none 0 0] 24)).alloc fxZ)/\GX ((w.alloc (.cells #[.slice none 0 0] 24)).alloc fxZ) w.heap.size (.slice none 0 0)/\FX ((w.alloc (.cells #[.slice none 0 0] 24)).alloc fxZ) (w.heap.size+1) 0 0):=⟨((bR _ _).alloc (nL _) _).alloc (by rw [sA];omega) _,(GX.mk (heap_alloc_new w _)).below (zaa _ _),⟨by have h:=heap_alloc_new (w.alloc (.cells #[.slice none 0 0] 24)) fxZ;rw [sA] at h;exact h⟩⟩;have HN:Hid (∀_:Unit,Cl 19 #[.string s] ((w.alloc (.cells #[.slice none 0 0] 24)).alloc fxZ) fun e w'=>e=pnc q.1 q.2/\Below ((w.alloc (.cells #[.slice none 0 0] 24)).alloc fxZ).heap.size ((w.alloc (.cells #[.slice none 0 0] 24)).alloc fxZ) w'):=fun _=>zd7 s _ (hg.later HB0.1) q hq (zeN hq).2
 clear hg hq;go_enter_defers Tryz.func5,Tryz.ntmps5
 go_wp2_with fail;generalize (w.alloc (.cells #[.slice none 0 0] 24)).alloc fxZ=w0 at *;refine (HN ()).mono ?_;rintro e w1 ⟨rfl,hb⟩;have hsz:=HB0.1.size;exact zk7 rfl rfl rfl (HB0.2.1.below hb) (HB0.2.2.below hb) fun W' hW'=>⟨rfl,(HB0.1.trans (hb.mono hsz)).trans hW'⟩
theorem zcA {E:PE} {z:Nat} {w0 W:World} {u:Value} {ov:List (Rl×Value)} (ho:W.ownsRow w0.heap.size 59 3 u ov.length (plc E z ov)) (hb:Bds w0 W ov) (htx:∀x∈ov,∀n∈x.1.2.2,n.tx.size<=65536) (hln:∀x∈ov,x.1.2.2.length<=2000000000000) (hn:ov.length<=65536):Cl 21 #[u] W fun e W'=>GrV w0 W ov (szR E z (ov.map (·.1))) e W':=by
 unfold szR;rw [List.getElem?_map]
 cases h:ov[200]? with
 | some x=>exact ze5 ho x h hn
 | none =>
  have hl:=List.getElem?_eq_none_iff.1 h;exact zfW ho hb htx hln hl
def PsV (w w':World) (r:Sum (List (ByteArray×List Nd)) (Int×Int)) (e:Ending):Prop:=match r with
 | .inr p=>e=.returned (.tuple #[.agg #[.slice none 0 0],.agg #[.int .i64 p.1,.int .i64 p.2]])
 | .inl gs=>∃u ov,e=.returned (.tuple #[.agg #[u],.agg #[.int .i64 0,.int .i64 0]])/\w'.ownsRow w.heap.size 57 2 u ov.length (grc ov)/\Bds w w' ov/\ov.map (fun x=>x.1.2)=gs
theorem Bds.base {w w0 W:World} {ov:List (Rl×Value)} (h:Bds w0 W ov) (hw:w.heap.size<=w0.heap.size):Bds w W ov:=⟨fun x hx=>za7 (h.e x hx) hw,h.ap⟩
theorem FX.ne2 {W:World} {k B e s n:Nat} {u:Value} {p c:Int} {xs:List Value} (h:FX W k p c) (ho:W.ownsRow B e s u n xs) (he:e≠27) {j:Nat} (hj:u.ownBlock=some j):j≠k:=fun q=>by
 subst q;obtain ⟨cs,hc⟩:=zd0 ho hj;rw [h.heap] at hc
 injection hc with h4
 injection h4 with _ h5
 exact he h5.symm
theorem zk9 {w w0 W:World} {k:Nat} {u gu:Value} {x y:Int} {ov:List (Rl×Value)} (hg:GX W k u) (hf:FX W (k+1) x y) (ho:W.ownsRow w0.heap.size 57 2 gu ov.length (grc ov)) (hb:Bds w0 W ov) (hw:w.heap.size<=w0.heap.size) (hbl:bW w W) (hk:w.heap.size<=k):GX (stF (W.setCell ⟨k,0,none⟩ gu) (k+1) 0 0) k gu/\FX (stF (W.setCell ⟨k,0,none⟩ gu) (k+1) 0 0) (k+1) 0 0/\(stF (W.setCell ⟨k,0,none⟩ gu) (k+1) 0 0).ownsRow w.heap.size 57 2 gu ov.length (grc ov)/\Bds w (stF (W.setCell ⟨k,0,none⟩ gu) (k+1) 0 0) ov/\bW w (stF (W.setCell ⟨k,0,none⟩ gu) (k+1) 0 0):=by
 have hf2:FX (W.setCell ⟨k,0,none⟩ gu) (k+1) x y:=⟨(bS _ _ _ _ (by show k+1≠k;omega)).trans hf.heap⟩;have key:∀{B e s n:Nat} {v:Value} {xs:List Value},W.ownsRow B e s v n xs->e≠24->e≠27->∀j,v.ownBlock=some j->(stF (W.setCell ⟨k,0,none⟩ gu) (k+1) 0 0).heap[j]?=W.heap[j]?:=fun h h1 h2 j hj=>(zcI 0 0 (FX.ne2 hf h h2 hj)).trans (bS _ _ _ _ (hg.ne h h1 hj))
 refine ⟨⟨(zcI 0 0 (by omega)).trans (hg.set gu).heap⟩,zew hf2 0 0,za7 (zaj ho (key ho (by decide) (by decide))) hw,(hb.same fun x hx=>key (hb.e x hx) (by decide) (by decide)).base hw,zcp (hbl.setCell (p:=⟨k,0,none⟩) hk _) (by omega) 0 0⟩
theorem zla {s:ByteArray} {l:List Tk} (h:zbf (zaL s) s=.inl l):∀a,a<(mkE l).l.length->¬kdA (mkE l) a=0:=fun a ha q=>by
 have ha:a<l.length:=ha;unfold kdA mkE at q;rw [gE ha] at q;have h1:=(zhc h l[a] (List.getElem_mem ha)).r;unfold riF at h1;simp only [Bool.and_eq_true,decide_eq_true_eq] at h1;have q:(l[a]).kd=0:=q;omega
theorem znv {E:PE} (hE:OkE E):∀(f i:Nat) (out rs:List Rl),i<=E.l.length->out.length<=i->(∀r∈out,r.2.2.length<=2000000000000)->rlG (exN E) E f i out=.inl rs->rs.length<=E.l.length/\∀r∈rs,r.2.2.length<=2000000000000:=by
 intro f
 induction f with
 | zero=>intro i out rs hi h0 h1 h;rw [rlG] at h;cases h;exact ⟨by omega,h1⟩
 | succ f ih =>
  intro i out rs hi h0 h1 h;rw [rlG] at h;by_cases hlt:i<E.l.length
  ·rw [iP hlt] at h
   by_cases hr:ruB E i=true
   ·rw [iP hr] at h
    cases he:exN E (i+2) with
    | inr p=>rw [he] at h;cases h
    | inl p =>
     obtain ⟨a,ns⟩:=p;rw [he] at h;have h2:=zes (zeU hr) he;have h3:=(zbW hE.rl (m:=0) (d:=0) (zeU hr) (by omega) he).2;have h4:=hE.len;refine ih _ _ _ h2.2 (by rw [lA,List.length_singleton];show out.length+1<=a;omega) (fun r hr2=>?_) h
     rcases List.mem_append.1 hr2 with q | q
     ·exact h1 r q
     ·rw [List.mem_singleton.1 q];show ns.length<=_;omega
   ·rw [iN hr] at h;cases h
  ·rw [iN hlt] at h;cases h;exact ⟨by omega,h1⟩
theorem ex_len {E:PE} (hE:OkE E) {i a:Nat} {ns:List Nd} (hi:i<=E.l.length) (h:exN E i=.inl (a,ns)):ns.length<=2000000000000:=by
 have h2:=zes hi h;have h3:=(zbW hE.rl (m:=0) (d:=0) hi (by omega) h).2;have h4:=hE.len;omega
theorem zhm (s:ByteArray) (w:World) (hg:GW w) (l:List Tk) (hl:zbf (zaL s) s=.inl l) (hr:ruB (mkE l) 0=true):Cl 5 #[.string s] w fun e w'=>PsV w w' (fin (mkE l) s.size (rdN (mkE l))) e/\bW w w':=by
 have hE:=zde hl;have hz:=hE.z;have hk0:=zla hl;have hmf:∀(fn:Fn) (first cap:Array Value) (w:World),(Instr.makeFunc fn first cap).run Tryz.prog w=.ok (.func fn first cap) w:=fun _ _ _ _=>rfl
 have HB0:Hid (bW w ((w.alloc (.cells #[.slice none 0 0] 24)).alloc fxZ)/\GX ((w.alloc (.cells #[.slice none 0 0] 24)).alloc fxZ) w.heap.size (.slice none 0 0)/\FX ((w.alloc (.cells #[.slice none 0 0] 24)).alloc fxZ) (w.heap.size+1) 0 0):=⟨((bR _ _).alloc (nL _) _).alloc (by rw [sA];omega) _,(GX.mk (heap_alloc_new w _)).below (zaa _ _),⟨by have h:=heap_alloc_new (w.alloc (.cells #[.slice none 0 0] 24)) fxZ;rw [sA] at h;exact h⟩⟩;have hgw:=hg.later HB0.1;have HN:Hid (∀_:Unit,Cl 19 #[.string s] ((w.alloc (.cells #[.slice none 0 0] 24)).alloc fxZ) fun e w'=>∃b tv,e=.returned (.pointer (some ⟨b,0,none⟩))/\RS (mkE l) s.size ((w.alloc (.cells #[.slice none 0 0] 24)).alloc fxZ) w' b tv 0 0 (.slice none 0 0) []):=fun _=>zcW s _ hgw l hl
 have HVB:Hid (R.VB ((w.alloc (.cells #[.slice none 0 0] 24)).alloc fxZ)):=hgw.v;have HTx:=(show Hid (∀rs,rdN (mkE l)=.inl rs->(∀r∈rs,∀n∈r.2.2,n.tx.size<=65536)/\rs.length<=65536/\∀r∈rs,r.2.2.length<=2000000000000) from fun rs h=>by
  have h1:=zk5 hE h;unfold rdN at h;rw [iP hr] at h;have h2:=znv hE _ _ _ _ (Nat.zero_le _) (nL _) (fun r hr=>by cases hr) h;exact ⟨h1,Nat.le_trans h2.1 hE.len,h2.2⟩)
 have HE:Hid (OkE (mkE l)/\(∀a,a<(mkE l).l.length->¬kdA (mkE l) a=0)/\ruB (mkE l) 0=true):=⟨hE,hk0,hr⟩;clear hg hgw hl hE hk0 hr;generalize mkE l=E at *;go_enter_defers Tryz.func5,Tryz.ntmps5
 go_wp2_with fail;generalize (w.alloc (.cells #[.slice none 0 0] 24)).alloc fxZ=w0 at *;refine (HN ()).mono ?_;rintro e w1 ⟨b,tv,rfl,h1⟩;have H1:=hO h1;have HBg:Hid (∀_:Unit,Cl 20 #[.pointer (some ⟨b,0,none⟩)] w1 (rB w1 (.bool true))):=fun _=>by
  have:=zcc h1 hz;rw [HE.2.2] at this;exact this
 clear h1 HN;go_wp2_with fail;refine (HBg ()).mono ?_;rintro e w2 ⟨rfl,hb⟩;have H2:=hO (H1.later hb);have HRu:Hid (∀_:Unit,Cl 22 #[.pointer (some ⟨b,0,none⟩)] w2 fun e W'=>RlV E s.size w0 (rdN E) e W'):=fun _=>zk4 HE.1 HE.2.1 HVB.out H2.out HE.2.2
 have hsz:=HB0.1.size;clear hb HBg H1
 cases hrd:rdN E with
 | inr q =>
  rw [hrd] at HRu;go_wp2_with fail;refine (HRu ()).mono ?_;rintro e w3 ⟨rfl,hb⟩;have hg3:=HB0.2.1.below hb;have hf3:=HB0.2.2.below hb;exact zk7 rfl rfl rfl hg3 hf3 fun W' hW'=>⟨by rw [hrd];rfl,(HB0.1.trans (hb.mono hsz)).trans hW'⟩
 | inl rs =>
  obtain ⟨hx1,hx2,hx3⟩:=HTx rs hrd;rw [hrd] at HRu;go_wp2_with fail;refine (HRu ()).mono ?_;rintro e w3 ⟨u,ov,rfl,ho,hbd,hmap,hb3⟩;have HGr:Hid (∀_:Unit,Cl 21 #[u] w3 fun e W'=>GrV w0 w3 ov (szR E s.size rs) e W'):=fun _=>by
   rw [<-hmap];refine zcA ho hbd ?_ ?_ ?_
   ·intro x hx;exact hx1 x.1 (by rw [<-hmap];exact List.mem_map_of_mem hx)
   ·intro x hx;exact hx3 x.1 (by rw [<-hmap];exact List.mem_map_of_mem hx)
   ·have:ov.length=rs.length:=by rw [<-hmap,List.length_map]
    omega
  have HB3:Hid (bW w0 w3/\Bds w0 w3 ov/\ov.map (·.1)=rs):=⟨hb3,hbd,hmap⟩;clear ho hbd hmap hb3 HRu HTx H2 hx1 hx2 hx3
  cases hsr:szR E s.size rs with
  | some p =>
   rw [hsr] at HGr;go_wp2_with fail;refine (HGr ()).mono ?_;rintro e w4 ⟨rfl,hb⟩;have hb4:=HB3.1.trans (hb.mono HB3.1.size);exact zk7 rfl rfl rfl (HB0.2.1.below hb4) (HB0.2.2.below hb4) fun W' hW'=>⟨by rw [hrd];unfold fin;simp only [hsr];rfl,(HB0.1.trans (hb4.mono hsz)).trans hW'⟩
  | none =>
   rw [hsr] at HGr;go_wp2_with fail;refine (HGr ()).mono ?_;rintro e w4 ⟨gu,rfl,ho,hb⟩;have hb4:=HB3.1.trans (hb.mono HB3.1.size);have hg4:=HB0.2.1.below hb4;have hf4:=HB0.2.2.below hb4;have HF:=hO (zk9 (w:=w) (w0:=w0) hg4 hf4 (za7 ho HB3.1.size) (HB3.2.1.later hb) hsz (HB0.1.trans (hb4.mono hsz)) (nL _));obtain ⟨A4,n4,rfl⟩:=zaf ho;have c0:=hg4.cl;have f0:=hg4.fz;have d0:=hf4.c0;have d1:=hf4.c1;have e0:=hf4.f0;have e1:=hf4.f1;clear ho hb hb4 hg4 hf4 HGr;go_wp2_with fail;exact doorR rfl rfl rfl HF.1 HF.2.1 ⟨by rw [hrd];unfold fin;simp only [hsr];exact ⟨_,ov,rfl,HF.2.2.1,HF.2.2.2.1,by rw [<-HB3.2.2,List.map_map];rfl⟩,HF.2.2.2.2⟩
end Go.Proofs.YtkihfkcmcdiajabGreatDoor.N
