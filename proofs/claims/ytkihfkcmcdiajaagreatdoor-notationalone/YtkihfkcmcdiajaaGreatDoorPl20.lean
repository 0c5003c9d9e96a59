/- DERIVED. Plain mathematics and walks, laid together (20). -/
import Derived.Recover
import Derived.Defers
import Derived.Test.YtkihfkcmcdiajaaGreatDoorPl19
set_option maxRecDepth 100000
set_option maxHeartbeats 8000000
namespace Go.Proofs.YtkihfkcmcdiajaaGreatDoor.N
open Go.RowKit
theorem zit {F:Nat} (hen:∀args w,(callFunc F args).run Tryz.prog w=.ok (.enter F args) w) {ops:Array Oper} {o:Oper} {a:Act} {w:World} {K:Act->World->Prop} {Q:Exit->Act->World->Prop} {E:Prop} (hgd:o.guard=none) (x y:Operand) (T U:TypeId) (ho:o.op=.call { callee:=.value (.func F),args:=#[x,y],argTypes:=#[T,U] }) (v u:Value) (hx:a.eval x=v) (hy:a.eval y=u)
  (hc:Calls Tryz.prog F #[v,u] w fun e w'=>∃r,e=.returned r/\K (a.put o.dst r) w') :
  if Region.wanted o (yielded ops a.tmps)=true then Oper.wp Tryz.prog o a w K Q else E:=by
 have hw:Region.wanted o (yielded ops a.tmps)=true:=by simp [Region.wanted,hgd]
 rw [iP hw];have he:(execOp a.eval o).run Tryz.prog w=.ok (.enter F #[v,u]) w:=by
  unfold execOp;simp [ho,go_sem,invoke,hen]
  rw [<-hx,<-hy]
  cases x <;> cases y <;> simp [Act.eval]
 unfold Oper.wp;rw [he,Oper.upon_enter];refine hc.mono ?_;rintro e w' ⟨r,rfl,hk⟩;exact hk
theorem zmp (args:Array Value) (w:World):(callFunc 32 args).run Tryz.prog w=.ok (.enter 32 args) w:=enters_of Tryz.func32 (by kernel_rfl) rfl args w
theorem DB.drew {W:World} {k:Nat} {a0 a1 a2 a3 a4 a5 a6:Value} (h:DB W k a0 a1 a2 a3 a4 a5 a6):DB W.drew k a0 a1 a2 a3 a4 a5 a6:=⟨h.heap⟩
theorem GX.drew {W:World} {k:Nat} {a:Value} (h:GX W k a):GX W.drew k a:=⟨h.heap⟩
theorem B4.fin {k:Nat} {W:World} {tv:Value} {i z d:Int} {v:Value} {p c:Int} {u:Value} (h:B4 k W tv i z d v p c u) (a0 a1 a2 a3 a4 a5 a6 x:Value):DB ((st7 W (k+1) a0 a1 a2 a3 a4 a5 a6).setCell ⟨k+1+1,0,none⟩ x) (k+1) a0 a1 a2 a3 a4 a5 a6/\GX ((st7 W (k+1) a0 a1 a2 a3 a4 a5 a6).setCell ⟨k+1+1,0,none⟩ x) (k+1+1) x :=
 ⟨(zaF h.r _ _ _ _ _ _ _).same (bS _ _ _ _ (by show k+1≠k+1+1;omega)),(h.o.same (zav _ _ _ _ _ _ _ (by omega))).set x⟩
theorem B4.grow {k:Nat} {W W1:World} {tv:Value} {i z d:Int} {v:Value} {p c:Int} {u:Value} (h:B4 k W tv i z d v p c u) {B e s n:Nat} {r:Value} {xs:List Value} (ho:W.ownsRow B e s r n xs) (h65:e≠65) (h24:e≠24) (hg:W.grownBy W1 r.ownBlock):B4 k W1 tv i z d v p c u :=
 ⟨h.s.same (hg.block _ h.s.lt fun q=>h.s.ne ho h65 q.symm rfl),h.r.same (hg.block _ h.r.lt fun q=>h.r.ne ho h65 q.symm rfl),h.o.same (hg.block _ h.o.lt fun q=>h.o.ne ho h24 q.symm rfl),h.g.same (hg.block _ h.g.lt fun q=>h.g.ne ho h24 q.symm rfl)⟩
theorem B4.s1 {k:Nat} {W:World} {tv:Value} {i z d:Int} {v:Value} {p c:Int} {u:Value} (h:B4 k W tv i z d v p c u) (x:Int):B4 k (W.setCell ⟨k,1,none⟩ (.int .i64 x)) tv x z d v p c u:=⟨h.s.s1 _,h.r.same (bS _ _ _ _ (by show k+1≠k;omega)),h.o.same (bS _ _ _ _ (by show k+2≠k;omega)),h.g.same (bS _ _ _ _ (by show k+3≠k;omega))⟩
theorem B4.s4 {k:Nat} {W:World} {tv:Value} {i z d:Int} {v:Value} {p c:Int} {u:Value} (h:B4 k W tv i z d v p c u) (x:Value):B4 k (W.setCell ⟨k,4,none⟩ x) tv i z d x p c u:=⟨h.s.s4 _,h.r.same (bS _ _ _ _ (by show k+1≠k;omega)),h.o.same (bS _ _ _ _ (by show k+2≠k;omega)),h.g.same (bS _ _ _ _ (by show k+3≠k;omega))⟩
theorem B4.setO {k:Nat} {W:World} {tv:Value} {i z d:Int} {v:Value} {p c:Int} {u:Value} (h:B4 k W tv i z d v p c u) {y:Nat} (hy:k+4<=y) (j:Nat) (x:Value):B4 k (W.setCell ⟨y,j,none⟩ x) tv i z d v p c u:=h.kept fun q _ h2=>bS _ _ _ _ (by show q≠y;omega)
structure XB (W:World) (y:Nat) (nm v:Value):Prop where
 heap:W.heap[y]?=some (.cells #[nm,v] 41 (0,0))
theorem XB.lt {W:World} {y:Nat} {nm v:Value} (h:XB W y nm v):y<W.heap.size:=(Array.getElem?_eq_some_iff.1 h.heap).1
theorem XB.same {W W':World} {y:Nat} {nm v:Value} (h:XB W y nm v) (hb:W'.heap[y]?=W.heap[y]?):XB W' y nm v:=⟨hb.trans h.heap⟩
theorem XB.cl {W:World} {y:Nat} {nm v:Value} (h:XB W y nm v):W.cell? ⟨y,0,none⟩=some nm/\W.cell? ⟨y,1,none⟩=some v:=by
 constructor
 ·rw [cell_of_row W y 0 _ 41 (0,0) h.heap];rfl
 ·rw [cell_of_row W y 1 _ 41 (0,0) h.heap];rfl
theorem XB.fz {W:World} {y:Nat} {nm v:Value} (h:XB W y nm v) (j:Nat):W.frozen? ⟨y,j,none⟩=false:=frozen_of_row W y j _ 41 h.heap
theorem XB.s1 {W:World} {y:Nat} {nm v:Value} (h:XB W y nm v) (x:Value):XB (W.setCell ⟨y,1,none⟩ x) y nm x:=⟨by rw [heap_setCell_same _ y 1 _ 41 x h.heap];simp⟩
theorem XB.ne {W:World} {y B e s n:Nat} {nm v u:Value} {xs:List Value} (h:XB W y nm v) (ho:W.ownsRow B e s u n xs) (he:e≠41) {j:Nat} (hj:u.ownBlock=some j):j≠y:=fun q=>by
 subst q;obtain ⟨cs,hc⟩:=zdV ho hj;rw [h.heap] at hc
 injection hc with h4
 injection h4 with _ h5
 exact he h5.symm
theorem Rv.olt {E:PE} {z:Nat} {w0 W:World} {tv:Value} {st:St} {i d:Int} {A:Option Addr} {l c:Nat} {p q:Int} (h:Rv E z w0 tv W st i d A l c p q) {j:Nat} (e:(ow st (.slice A l c)).ownBlock=some j):j<W.heap.size:=by
 cases st with
 | inl s=>exact (h.2.2.2.2.2.o.lt j e).2
 | inr s=>cases e
def plW (E:PE) (z:Nat) (ov:List (Rl×Value)):List Value:=ov.map fun x=>.int .i64 (plA E z x.1.1)
structure Rws (E:PE) (z:Nat) (w0 W:World) (u pv:Value) (ov:List (Rl×Value)):Prop where
 o:W.ownsRow w0.heap.size 41 2 u ov.length (grc ov)
 p:W.ownsRow w0.heap.size 3 1 pv ov.length (plW E z ov)
 b:Bds w0 W ov
section
variable {E:PE} {z:Nat} {w0 W W':World} {u pv:Value} {ov:List (Rl×Value)}
theorem Rws.same (h:Rws E z w0 W u pv ov) (hk:∀j,(u.ownBlock=some j∨pv.ownBlock=some j∨∃x∈ov,x.2.ownBlock=some j)->W'.heap[j]?=W.heap[j]?):Rws E z w0 W' u pv ov :=
 ⟨zam h.o fun j hj=>hk j (.inl hj),zam h.p fun j hj=>hk j (.inr (.inl hj)),h.b.same fun x hx j hj=>hk j (.inr (.inr ⟨x,hx,hj⟩))⟩
theorem Rws.lt (h:Rws E z w0 W u pv ov) {j:Nat} (hj:u.ownBlock=some j∨pv.ownBlock=some j∨∃x∈ov,x.2.ownBlock=some j):j<W.heap.size:=by
 rcases hj with q | q | ⟨x,hx,q⟩
 ·exact (h.o.lt j q).2
 ·exact (h.p.lt j q).2
 ·exact ((h.b.e x hx).lt j q).2
theorem Rws.ne (h:Rws E z w0 W u pv ov) {k:Nat} {a0 a1 a2 a3 a4 a5 a6:Value} (hx:DB W k a0 a1 a2 a3 a4 a5 a6) {j:Nat} (hj:u.ownBlock=some j∨pv.ownBlock=some j∨∃x∈ov,x.2.ownBlock=some j):j≠k:=by
 rcases hj with q | q | ⟨x,hx2,q⟩
 ·exact hx.ne h.o (by decide) q
 ·exact hx.ne h.p (by decide) q
 ·exact hx.ne (h.b.e x hx2) (by decide) q
theorem Rws.ne2 (h:Rws E z w0 W u pv ov) {k:Nat} {a:Value} (hx:GX W k a) {j:Nat} (hj:u.ownBlock=some j∨pv.ownBlock=some j∨∃x∈ov,x.2.ownBlock=some j):j≠k:=by
 rcases hj with q | q | ⟨x,hx2,q⟩
 ·exact hx.ne h.o (by decide) q
 ·exact hx.ne h.p (by decide) q
 ·exact hx.ne (h.b.e x hx2) (by decide) q
theorem Rws.drew (h:Rws E z w0 W u pv ov):Rws E z w0 W.drew u pv ov:=h.same fun _ _=>rfl
theorem Rws.later (h:Rws E z w0 W u pv ov) (hb:Below W.heap.size W W'):Rws E z w0 W' u pv ov:=h.same fun j hj=>hb.block j (h.lt hj)
theorem Rws.upto (h:Rws E z w0 W u pv ov) {k:Nat} {a0 a1 a2 a3 a4 a5 a6:Value} (hx:DB W k a0 a1 a2 a3 a4 a5 a6) (hk:∀j,j<W.heap.size->j≠k->W'.heap[j]?=W.heap[j]?):Rws E z w0 W' u pv ov:=h.same fun j hj=>hk j (h.lt hj) (h.ne hx hj)
theorem Rws.place (h:Rws E z w0 W u pv ov) {o:Obj} {W1:World} (hg:(W.alloc o).grownBy W1 pv.ownBlock):W1.ownsRow w0.heap.size 41 2 u ov.length (grc ov)/\Bds w0 W1 ov :=
 ⟨zam h.o fun j hj=>(hg.block j (by rw [sA];have:=(h.o.lt j hj).2;omega) fun e=>zbQ h.o h.p (by decide) hj e.symm).trans ((zaa W o).block j (h.o.lt j hj).2),h.b.same fun y hy j hj=>(hg.block j (by rw [sA];have:=((h.b.e y hy).lt j hj).2;omega) fun e=>zbQ (h.b.e y hy) h.p (by decide) hj e.symm).trans ((zaa W o).block j ((h.b.e y hy).lt j hj).2)⟩
end
def LdS (E:PE) (z:Nat) (w0:World) (tv:Value) (k:Nat) (R0:Sum (List Rl) (Nat×Int)) (W:World) (pv:Value) (st:St) (i d:Int) (A:Option Addr) (l c:Nat) (p q:Int) (u:Value):Prop :=
 B4 k W tv i z d (.slice A l c) p q u/\Rv E z w0 tv W st i d A l c p q/\(∃A2 l2 c2,u=.slice A2 l2 c2)/\match st with
  | .inl s=>s.2.1=0/\∃ov f,Rws E z w0 W u pv ov/\ov.length<=s.1/\E.l.length<f+s.1/\R0=rlG (exN E) E f s.1 (ov.map (·.1))
  | .inr q=>R0=.inr q
theorem zm2 {k n:Nat} {W:World} {a0 a2 a3 a4 a5:Value} {i:Nat} (h:DB W k a0 (.int .i64 i) a2 a3 a4 a5 (.int .i64 0)):mD k n W=n+1 - i:=by
 obtain ⟨_,k1,_,_,_,_,k6⟩:=h.cl;unfold mD;rw [k1,k6];rfl
theorem mDb_no {k n:Nat} {W:World} {a0 a2 a3 a4 a5:Value} {i c:Int} (h:DB W k a0 (.int .i64 i) a2 a3 a4 a5 (.int .i64 c)) (hc:c≠0):mD k n W=0:=by
 obtain ⟨_,k1,_,_,_,_,k6⟩:=h.cl;unfold mD;rw [k1,k6]
 show (if c=0 then _ else _)=_
 rw [iN hc]
theorem Rws.fin {E:PE} {z:Nat} {w0 W:World} {u pv:Value} {ov:List (Rl×Value)} {k:Nat} {tv v:Value} {i d p c:Int} {zz:Int} (h:Rws E z w0 W u pv ov) (hB:B4 k W tv i zz d v p c u) (a0 a1 a2 a3 a4 a5 a6 x:Value):Rws E z w0 ((st7 W (k+1) a0 a1 a2 a3 a4 a5 a6).setCell ⟨k+1+1,0,none⟩ x) u pv ov :=
 h.same fun _j hj=>(bS _ _ _ _ (h.ne2 hB.o hj)).trans (zav _ _ _ _ _ _ _ (h.ne hB.r hj))
theorem zmq {E:PE} (hE:OkE E) {z:Nat} {w0 W:World} {At:Option Addr} {ct:Nat} (h:DS E w0 W (.slice At E.l.length ct) 0 0 (.slice none 0 0) []) (hr0:ruB E 0=true):Calls Tryz.prog 27 #[rdV (.slice At E.l.length ct) 0 z 0 (.slice none 0 0) 0 0] W fun e W'=>RdD E z w0 (.slice At E.l.length ct) (rdN E) e W':=by
 have hlen:=hE.len;have hz:=hE.z;have hru:=ziV hr0;obtain ⟨A',c',e',hc'⟩:=h.tk;obtain ⟨g,hA,hz8,hz9⟩:=hc' 0 (by omega)
 cases e'
 subst hA;clear hc' hz8 hz9;obtain ⟨i0,hinf,hz0,hz1,hz2⟩:=info_parts Tryz.info41;obtain ⟨i1,hinf1,hy0,hy1,hy2⟩:=info_parts T.Tryz.info3;obtain ⟨R0,hR0⟩:∃r,r=rdN E:=⟨_,rfl⟩;have hR1:R0=rlG (exN E) E (E.l.length+1) 0 (([]:List (Rl×Value)).map (·.1)):=by rw [hR0];unfold rdN;rw [iP hr0];rfl
 have HLo:Hid (w0.heap.size<=W.heap.size):=h.bl.size;have HEe:=hO hE;have HRu:Hid (∀W a v L,DS E w0 W (.slice (some ⟨g,0,none⟩) E.l.length ct) a 0 v L->Cl 31 #[rdV (.slice (some ⟨g,0,none⟩) E.l.length ct) a z 0 v 0 0] W (rB W (.bool (ruB E a)))):=fun W a v L h=>zbt h z 0 0 hz
 have HOk:Hid (∀(i d:Int) (A:Option Addr) (l c:Nat) (p q:Int) W,Cl 28 #[rdV (.slice (some ⟨g,0,none⟩) E.l.length ct) i z d (.slice A l c) p q] W (rB W (.bool (q==0)))):=fun i d A l c p q W=>zaO (some ⟨g,0,none⟩) E.l.length ct i z d A l c p q W
 have HX:=B4.new W (.slice (some ⟨g,0,none⟩) E.l.length ct) 0 z 0 (.slice none 0 0) 0 0;have HB:=hO HX.1;have HD:Hid (DS E w0 ((((W.alloc (rdO (.slice (some ⟨g,0,none⟩) E.l.length ct) 0 z 0 (.slice none 0 0) 0 0)).alloc rdZ).alloc gxZ).alloc gxZ) (.slice (some ⟨g,0,none⟩) E.l.length ct) 0 0 (.slice none 0 0) []):=h.later HX.2.1;have HRu0:Hid (∀W,DS E w0 W (.slice (some ⟨g,0,none⟩) E.l.length ct) 0 0 (.slice none 0 0) []->Cl 31 #[rdV (.slice (some ⟨g,0,none⟩) E.l.length ct) 0 z 0 (.slice none 0 0) 0 0] W (rB W (.bool true))):=fun W h=>by
  have:=HRu.out W 0 _ _ h;rw [hr0] at this;exact this
 have HR1:=hO hR1;have HLe:Hid (E.l.length<=65536):=hlen;rw [<-hR0];clear hR0 hR1 HX h hE hlen hr0 hru;go_enter Tryz.func27,Tryz.ntmps27;go_wp2_with fail;generalize (((W.alloc (rdO (.slice (some ⟨g,0,none⟩) E.l.length ct) 0 z 0 (.slice none 0 0) 0 0)).alloc rdZ).alloc gxZ).alloc gxZ=w1 at *;refine (HRu0 _ HD.out).mono ?_;rintro e w2 ⟨rfl,hb⟩;have HIn:Hid (LdS E z w0 (.slice (some ⟨g,0,none⟩) E.l.length ct) W.heap.size R0 w2 (.slice none 0 0) (.inl (0,0,[])) 0 0 none 0 0 0 0 (.slice none 0 0)):=⟨HB.later hb,⟨rfl,rfl,rfl,rfl,rfl,HD.later hb⟩,⟨none,0,0,rfl⟩,rfl,[],E.l.length+1,⟨World.ownsRow_nil _ _ _ _,World.ownsRow_nil _ _ _ _,⟨fun x hx=>(by cases hx),List.Pairwise.nil⟩⟩,nL _,(by show E.l.length<E.l.length+1+0;omega),HR1.out⟩;clear hb HB HD HRu0 HR1;go_wp2_with fail;go_loopw [6] (fun pv wr=>∃(st:St) (i3 d3:Int) (A1:Option Addr) (l1 c1:Nat) (p3 q3:Int) (u:Value),Hid (LdS E z w0 (.slice (some ⟨g,0,none⟩) E.l.length ct) W.heap.size R0 wr pv st i3 d3 A1 l1 c1 p3 q3 u)) (fun _ wr=>mD W.heap.size E.l.length wr)
 case atStart=>exact ⟨_,_,_,_,_,_,_,_,_,HIn⟩
 case round =>
  clear HIn;obtain ⟨st,i3,d3,A1,l1,c1,p3,q3,u,HL⟩:=hrel;obtain ⟨A2,l2,c2,rfl⟩:=HL.2.2.1
  rcases st with ⟨a,dd,L⟩ | qq
  ·obtain ⟨hdd,ov,f,hRw,hn,hf,hR⟩:=HL.2.2.2
   obtain rfl:dd=0:=hdd;have h9:q3=0/\p3=0/\i3=(a:Int)/\d3=(0:Int)/\l1=L.length/\DS E w0 wr (.slice (some ⟨g,0,none⟩) E.l.length ct) a 0 (.slice A1 l1 c1) L:=HL.2.1;obtain ⟨rfl,rfl,rfl,rfl,hz8,hz9⟩:=h9;have HD4:=hO hz9;have HB4:Hid (B4 W.heap.size wr (.slice (some ⟨g,0,none⟩) E.l.length ct) a z 0 (.slice A1 l1 c1) 0 0 (.slice A2 l2 c2)):=HL.1;have HR4:=hO hRw;have HM:Hid (mD W.heap.size E.l.length wr=E.l.length+1 - a):=zm2 HL.1.s;have ha:=hz9.hi;obtain ⟨f,rfl⟩:∃g,f=g+1:=⟨f - 1,by omega⟩;have HG:Hid (R0=if a<E.l.length then (if ruB E a=true then (match exN E (a+2) with
    | .inr q=>.inr q
    | .inl p=>rlG (exN E) E f p.1 (ov.map (·.1)++[(a,(tkA E a).tx,p.2)])) else .inr (a,60)) else .inl (ov.map (·.1))):=by
    show R0=_
    rw [hR,rlG]
    all_goals
     split
     ·split
      ·cases exN E (a+2) <;> rfl
      ·rfl
     ·rfl
   have HOk4:Hid (∀W,Cl 28 #[rdV (.slice (some ⟨g,0,none⟩) E.l.length ct) a z 0 (.slice A1 l1 c1) 0 0] W (rB W (.bool true))):=fun W=>HOk a 0 A1 l1 c1 0 0 W
   have HNf:Hid (ov.length<=a/\E.l.length<f+1+a):=⟨hn,hf⟩;clear HL hRw hn hf hR hz8 hz9 HOk;obtain ⟨k0,k1,k2,k3,k4,k5,k6⟩:=HB4.s.cl;by_cases hlt:a<E.l.length
   ·have t1:(a:Int)<(E.l.length:Int):=by omega
    go_wp2_with fail;refine (HOk4 _).mono ?_;rintro e w5 ⟨rfl,hb⟩;have HB5:=hO (HB4.later hb);have HD5:=hO (HD4.later hb);have HR5:=hO (HR4.later hb);clear hb HOk4 HB4 HD4 HR4 k0 k1 k2 k3 k4 k5 k6;obtain ⟨k0,k1,k2,k3,k4,k5,k6⟩:=HB5.s.cl;go_wp2_with fail;refine (HRu _ _ _ _ HD5.out).mono ?_;rintro e w6 ⟨rfl,hb⟩;have HB6:=hO (HB5.later hb);have HD6:=hO (HD5.later hb);have HR6:=hO (HR5.later hb);clear hb HB5 HD5 HR5 HRu k0 k1 k2 k3 k4 k5 k6
    cases hru:ruB E a with
    | true =>
     have hb2:=ziV hru;obtain ⟨b,hbe⟩:∃b,b=a+2:=⟨_,rfl⟩;have u2:IntKind.i64.wrap ((a:Int)+2)=(b:Int):=by rw [wI];omega
     obtain ⟨pl,hpl⟩:∃x,(tkA E a).fr=x:=⟨_,rfl⟩;obtain ⟨tx,htx⟩:∃x,(tkA E a).tx=x:=⟨_,rfl⟩;have HPl:Hid (plA E z a=pl):=by show plA E z a=pl;unfold plA;rw [iP hlt];exact hpl
     have HG2:Hid (R0=match gN E 0 b 0 with
      | .inr q=>.inr q
      | .inl p=>rlG (exN E) E f p.1 (ov.map (·.1)++[(a,tx,p.2)])):=by
      show R0=_
      rw [HG.out,iP hlt,iP hru,htx,<-hbe];rfl
     have HTk:Hid (∀W' v L,DS E w0 W' (.slice (some ⟨g,0,none⟩) E.l.length ct) a 0 v L->W'.cell? ⟨g,a * 9+2,none⟩=some (.int .i64 pl)/\W'.cell? ⟨g,a * 9+4,none⟩=some (.string tx)):=fun W' v L hd=>by
      obtain ⟨A',c',e',hc'⟩:=hd.tk;obtain ⟨g',hA,_,hr⟩:=hc' a hlt
      cases e'
      cases hA
      exact ⟨by rw [<-hpl];exact hr.c2,by rw [<-htx];exact hr.c4⟩
     have HEx:Hid (∀W' v,DS E w0 W' (.slice (some ⟨g,0,none⟩) E.l.length ct) b 0 v []->Cl 51 #[rdV (.slice (some ⟨g,0,none⟩) E.l.length ct) b z 0 v 0 0] W' fun e W2=>Pu E z w0 (.slice (some ⟨g,0,none⟩) E.l.length ct) W' v (.inl (b,0,[])) (stR 0 [] (gN E 0 b 0)) e W2):=fun W' v hd=>(zdy HEe hd.hi W' v [] hd (Nat.zero_le _)).mono fun _ _ hp=>hp.u fun q hq=>by
      have:=(zbz hd.hi (by omega) hq).2;omega
     have HBd:Hid (a<b/\b<=E.l.length):=⟨by omega,by omega⟩;have HAd:Hid (∀p,gN E 0 b 0=.inl p->b<p.1/\p.1<=E.l.length):=fun p hp=>by
      have:=zbM (a:=p.1) (ns:=p.2) HBd.2 (by omega) hp;exact ⟨this.2.2 (by omega),this.2.1⟩
     have HEr:Hid (∀q,gN E 0 b 0=.inr q->q.2≠0):=fun q hq=>by
      have:=(zbz HBd.2 (by omega) hq).2;omega
     have z0:(0:Int)<=(a:Int):=by omega
     have hNb:Hid (ov.length<=65536):=by have h1:=HNf.1;have h2:=HLe.out;show ov.length<=65536;omega
     clear HG hru hb2 hbe hpl htx hlt;obtain ⟨A5,c5,hv5⟩:=zag HR6.p;subst hv5;obtain ⟨tk2,tk4⟩:=HTk _ _ _ HD6.out;have hs6:=HD6.bl.size;obtain ⟨k0,k1,k2,k3,k4,k5,k6⟩:=HB6.s.cl;go_wp2_with (at_builtin;refine wpList_append_lies _ rfl _ _ 66 rfl w0.heap.size 3 i1 (.int .i64 0) 1 8 Tryz.underlying66 hinf1 hy0 hy1 hy2 rfl (by decide) _ _ _ rfl (HR6.p.alloc _) ⟨w6.heap.size,0,none⟩ 1 1 [.int .i64 pl] rfl rfl (cell_one_new _ _ _) ?c2 (by decide) ?c3 ?c4 ?c5 (w6.heap.size+1) (by simp) ?_)
     case c2=>intro u hu;rw [List.mem_singleton.1 hu];rfl
     case c3=>have:=hNb.out;unfold maxLen;omega
     case c4=>have:=hNb.out;omega
     case c5=>rw [sA];omega
     intro g7 cap7 w7 hown7 hgrow7 hat7 hlt7;have HB7:Hid (B4 W.heap.size w7 (.slice (some ⟨g,0,none⟩) E.l.length ct) a z 0 (.slice A1 l1 c1) 0 0 (.slice A2 l2 c2)):=(HB6.later (zaa _ _)).grow (HR6.p.alloc _) (by decide) (by decide) hgrow7;have HR7:Hid (w7.ownsRow w0.heap.size 41 2 (.slice A2 l2 c2) ov.length (grc ov)/\Bds w0 w7 ov):=HR6.place hgrow7;have HP7:Hid (w7.ownsRow w0.heap.size 3 1 (.slice (some ⟨g7,0,none⟩) (ov.length+1) cap7) (ov.length+1) (plW E z ov++[.int .i64 pl])):=hown7;have HD7:=(show Hid (DS E w0 w7 (.slice (some ⟨g,0,none⟩) E.l.length ct) a 0 (.slice none 0 0) []) from by
      have hd:=HD6.later (zaa w6 (.cells #[.int .i64 pl] 3));have hp:=HR6.p.alloc (.cells #[.int .i64 pl] 3);exact ⟨hd.bl.grown hgrow7 hd.bl.size (fun k e=>(hp.lt k e).1),zam hd.t fun j hj=>hgrow7.block j (hd.t.lt j hj).2 (fun e=>zbQ hd.t hp (by decide) hj e.symm),World.ownsRow_nil _ _ _ _,hd.hi,hd.hd⟩)
     clear hown7 hgrow7 hat7 hlt7 HB6 HR6 HD6 tk2 tk4 hs6 k0 k1 k2 k3 k4 k5 k6;obtain ⟨wA,hwA⟩:∃w,w7.alloc (.cells #[.string tx,.slice none 0 0] 41)=w:=⟨_,rfl⟩;obtain ⟨wB,hwB⟩:∃w,wA.setCell ⟨W.heap.size,1,none⟩ (.int .i64 b)=w:=⟨_,rfl⟩;obtain ⟨wC,hwC⟩:∃w,wB.alloc (.cells #[] 51)=w:=⟨_,rfl⟩;obtain ⟨y,hy⟩:∃y,w7.heap.size=y:=⟨_,rfl⟩;obtain ⟨yE,hyE⟩:∃y,wB.heap.size=y:=⟨_,rfl⟩;have HBA:Hid (B4 W.heap.size wA (.slice (some ⟨g,0,none⟩) E.l.length ct) a z 0 (.slice A1 l1 c1) 0 0 (.slice A2 l2 c2)):=by rw [<-hwA];exact HB7.later (zaa _ _)
     have HBB:Hid (B4 W.heap.size wB (.slice (some ⟨g,0,none⟩) E.l.length ct) b z 0 (.slice A1 l1 c1) 0 0 (.slice A2 l2 c2)):=by rw [<-hwB];exact HBA.s1 b
     have HBC:Hid (B4 W.heap.size wC (.slice (some ⟨g,0,none⟩) E.l.length ct) b z 0 (.slice A1 l1 c1) 0 0 (.slice A2 l2 c2)):=by rw [<-hwC];exact HBB.later (zaa _ _)
     have HBD:Hid (B4 W.heap.size (wC.setCell ⟨W.heap.size,4,none⟩ (.slice (some ⟨yE,0,none⟩) 0 0)) (.slice (some ⟨g,0,none⟩) E.l.length ct) b z 0 (.slice (some ⟨yE,0,none⟩) 0 0) 0 0 (.slice A2 l2 c2)):=HBC.s4 _;have hyy:y+1=yE:=by rw [<-hyE,<-hwB,<-hy];show w7.heap.size+1=(wA.setCell _ _).heap.size;rw [World.size_setCell,<-hwA,sA]
     have hk7:=HB7.g.lt;rw [hy] at hk7;have HYs:Hid (y+1=yE/\W.heap.size+3<y):=⟨hyy,hk7⟩;have HXA:Hid (XB wA y (.string tx) (.slice none 0 0)):=by rw [<-hwA,<-hy];exact ⟨heap_alloc_new w7 _⟩
     have HXD:=(show Hid (XB (wC.setCell ⟨W.heap.size,4,none⟩ (.slice (some ⟨yE,0,none⟩) 0 0)) y (.string tx) (.slice none 0 0)) from by
      have q1:XB wB y (.string tx) (.slice none 0 0):=by rw [<-hwB];exact HXA.same (bS _ _ _ _ (by show y≠W.heap.size;omega))
      have q2:XB wC y (.string tx) (.slice none 0 0):=by rw [<-hwC];exact q1.same ((zaa wB _).block y q1.lt)
      exact q2.same (bS _ _ _ _ (by show y≠W.heap.size;omega)))
     have HK:Hid (∀j,j<y->j≠W.heap.size->(wC.setCell ⟨W.heap.size,4,none⟩ (.slice (some ⟨yE,0,none⟩) 0 0)).heap[j]?=w7.heap[j]?):=fun j h1 h2=>by
      have e1:wA.heap[j]?=w7.heap[j]?:=by rw [<-hwA];exact (zaa w7 _).block j (by omega)
      have e2:wB.heap[j]?=wA.heap[j]?:=by rw [<-hwB];exact bS _ _ _ _ h2
      have e3:wC.heap[j]?=wB.heap[j]?:=by rw [<-hwC];exact (zaa wB _).block j (by omega)
      exact (bS _ _ _ _ h2).trans (e3.trans (e2.trans e1))
     have HDD:Hid (DS E w0 (wC.setCell ⟨W.heap.size,4,none⟩ (.slice (some ⟨yE,0,none⟩) 0 0)) (.slice (some ⟨g,0,none⟩) E.l.length ct) b 0 (.slice (some ⟨yE,0,none⟩) 0 0) []):=by
      have hb0:=HD7.bl;have hlo:=HLo.out;have c1:Below w0.heap.size w0 wC:=by
       rw [<-hwC];refine Below.alloc ?_ (by rw [hyE];have:=hb0.size;omega) _;rw [<-hwB];refine Below.setCell ?_ (p:=⟨W.heap.size,1,none⟩) hlo _;rw [<-hwA];exact hb0.alloc hb0.size _
      refine ⟨c1.setCell (p:=⟨W.heap.size,4,none⟩) hlo _,zam HD7.t fun j hj=>HK j (by rw [<-hy];exact (HD7.t.lt j hj).2) (HB7.s.ne HD7.t (by decide) hj),⟨rfl,.inr ⟨yE,0,#[],rfl,by have:=hb0.size;omega,?_,nL _,Nat.zero_le _,rfl,rfl⟩⟩,HBd.2,Nat.zero_le _⟩;rw [bS _ _ _ _ (by show yE≠W.heap.size;omega),<-hwC,<-hyE];exact heap_alloc_new wB _
     have HEA:=hO hwA;have HEB:=hO hwB;have HEC:=hO hwC;obtain ⟨tk2,tk4⟩:=HTk _ _ _ HD7.out;obtain ⟨k0,k1,k2,k3,k4,k5,k6⟩:=HB7.s.cl;obtain ⟨n0,n1,n2,n3,n4,n5,n6⟩:=HBA.s.cl;have nf:=HBA.s.fz 1;obtain ⟨o0,o1,o2,o3,o4,o5,o6⟩:=HBC.s.cl;have of:=HBC.s.fz 4;clear hwA hwB hwC hyy hk7;go_wp2_with (first | rw [HEA.out] | rw [HEB.out] | rw [HEC.out])
     refine (HEx _ _ HDD.out).mono ?_;rintro e w8 ⟨i8,d8,A8,l8,c8,p8,q8,rfl,hr,hf⟩;obtain ⟨st8,hst8⟩:∃s,s=stR 0 [] (gN E 0 b 0):=⟨_,rfl⟩;rw [<-hst8] at hr hf;have hzD:=(HDD.o.lt yE rfl).2;have HK8:Hid (∀j,j<yE->w8.heap[j]?=(wC.setCell ⟨W.heap.size,4,none⟩ (.slice (some ⟨yE,0,none⟩) 0 0)).heap[j]?):=fun j hj=>hf.block j (by omega) (fun e=>by have:yE=j:=Option.some.inj e;omega)
     have HOw:Hid (∀j,(ow st8 (.slice A8 l8 c8)).ownBlock=some j->y<j):=fun j e=>by
      have h1:=HYs.1
      rcases hf.own j e with r | r
      ·have:yE=j:=Option.some.inj r
       omega
      ·omega
     have HB8:Hid (B4 W.heap.size w8 (.slice (some ⟨g,0,none⟩) E.l.length ct) b z 0 (.slice (some ⟨yE,0,none⟩) 0 0) 0 0 (.slice A2 l2 c2)):=HBD.kept fun j h1 h2=>HK8 j (by have:=HYs.out;omega)
     have HX8:Hid (XB w8 y (.string tx) (.slice none 0 0)):=HXD.same (HK8 y (by have:=HYs.out;omega));have HRv:Hid (Rv E z w0 (.slice (some ⟨g,0,none⟩) E.l.length ct) w8 st8 i8 d8 A8 l8 c8 p8 q8):=hr;have HS8:=hO hst8;have HSz:Hid (∀j,j<y->j≠W.heap.size->w8.heap[j]?=w7.heap[j]?):=fun j h1 h2=>(HK8 j (by have:=HYs.out;omega)).trans (HK j h1 h2)
     clear hr hf hst8 hzD HK8 HBA HBB HBC HBD HXA HXD HK HDD HEA HEB HEC HEx tk2 tk4 k0 k1 k2 k3 k4 k5 k6 n0 n1 n2 n3 n4 n5 n6 nf o0 o1 o2 o3 o4 o5 o6 of;obtain ⟨v8,hv8⟩:∃w,(((((((w8.setCell ⟨W.heap.size,0,none⟩ (.slice (some ⟨g,0,none⟩) E.l.length ct)).setCell ⟨W.heap.size,1,none⟩ (.int .i64 i8)).setCell ⟨W.heap.size,2,none⟩ (.int .i64 z)).setCell ⟨W.heap.size,3,none⟩ (.int .i64 d8)).setCell ⟨W.heap.size,4,none⟩ (.slice A8 l8 c8)).setCell ⟨W.heap.size,5,none⟩ (.int .i64 p8)).setCell ⟨W.heap.size,6,none⟩ (.int .i64 q8))=w:=⟨_,rfl⟩;obtain ⟨v9,hv9⟩:∃w,v8.setCell ⟨y,1,none⟩ (.slice A8 l8 c8)=w:=⟨_,rfl⟩;have HBs:Hid (B4 W.heap.size v8 (.slice (some ⟨g,0,none⟩) E.l.length ct) i8 z d8 (.slice A8 l8 c8) p8 q8 (.slice A2 l2 c2)):=by rw [<-hv8];exact HB8.st _ _ _ _ _ _ _
     have HXs:Hid (XB v8 y (.string tx) (.slice none 0 0)):=by rw [<-hv8];exact HX8.same (zav _ _ _ _ _ _ _ (by have:=HYs.2;omega))
     have HB9:Hid (B4 W.heap.size v9 (.slice (some ⟨g,0,none⟩) E.l.length ct) i8 z d8 (.slice A8 l8 c8) p8 q8 (.slice A2 l2 c2)):=by rw [<-hv9];exact HBs.setO (by have:=HYs.2;omega) 1 _
     have HX9:Hid (XB v9 y (.string tx) (.slice A8 l8 c8)):=by rw [<-hv9];exact HXs.s1 _
     have HK9:Hid (∀j,j≠y->j≠W.heap.size->v9.heap[j]?=w8.heap[j]?):=fun j h1 h2=>by
      have e1:v8.heap[j]?=w8.heap[j]?:=by rw [<-hv8];exact zav _ _ _ _ _ _ _ h2
      have e2:v9.heap[j]?=v8.heap[j]?:=by rw [<-hv9];exact bS _ _ _ _ h1
      exact e2.trans e1
     have HZ9:Hid (v9.heap.size=w8.heap.size):=by
      show v9.heap.size=_
      rw [<-hv9,World.size_setCell,<-hv8];exact zeg _ _ _ _ _ _ _ _ _
     have HBl9:Hid (Below w0.heap.size w0 w8->Below w0.heap.size w0 v9):=fun hb=>by
      rw [<-hv9,<-hv8];exact (zaq hb HLo _ _ _ _ _ _ _).setCell (p:=⟨y,1,none⟩) (by have h1:=HYs.2;have h2:=HLo.out;show _<=y;omega) _
     have HO9:Hid (v9.ownsRow w0.heap.size 41 2 (.slice A2 l2 c2) ov.length (grc ov)):=zam HR7.1 fun j hj=>by
      have h1:=(HR7.1.lt j hj).2;rw [hy] at h1;have h2:=HB7.s.ne HR7.1 (by decide) hj;exact (HK9 j (by omega) h2).trans (HSz j h1 h2)
     have HEs:=hO hv8;have HE9:=hO hv9;have hs9:w0.heap.size<=v9.heap.size:=by have h1:=HB9.g.lt;have h2:=HLo.out;omega
     obtain ⟨k0,k1,k2,k3,k4,k5,k6⟩:=HB8.s.cl;obtain ⟨f0,f1,f2,f3,f4,f5,f6⟩:=HB8.s.fzs;obtain ⟨h0,h1,h2,h3,h4,h5,h6⟩:=HBs.s.cl;obtain ⟨xs0,xs1⟩:=HXs.cl;have xf:=HXs.fz 1;obtain ⟨x90,x91⟩:=HX9.cl;have g9:=HB9.g.cl;clear hv8 hv9;go_wp2_with (first | rw [HEs.out] | rw [HE9.out] | (at_builtin;refine wpList_append_lies _ rfl _ _ 22 rfl w0.heap.size 41 i0 (.agg #[.string ⟨#[]⟩,.slice none 0 0]) 2 40 Tryz.underlying22 hinf hz0 hz1 hz2 rfl (by decide) _ _ _ rfl (HO9.alloc _) ⟨v9.heap.size,0,none⟩ 1 1 [.string tx,.slice A8 l8 c8] rfl rfl ?c1 ?c2 (by decide) ?c3 ?c4 ?c5 (v9.heap.size+1) (by simp) ?_))
     case c1=>exact World.news_of_block (cs:=#[.string tx,.slice A8 l8 c8]) (t:=41) (fr:=(0,0)) (heap_alloc_new v9 _)
     case c2=>intro u hu;simp only [List.mem_cons,List.not_mem_nil,or_false] at hu;rcases hu with rfl | rfl <;> rfl
     case c3=>have:=hNb.out;unfold maxLen;omega
     case c4=>have:=hNb.out;omega
     case c5=>rw [sA];omega
     intro g10 cap10 w10 hown10 hgrow10 hat10 hlt10;have HB10:Hid (B4 W.heap.size w10 (.slice (some ⟨g,0,none⟩) E.l.length ct) i8 z d8 (.slice A8 l8 c8) p8 q8 (.slice A2 l2 c2)):=(HB9.later (zaa _ _)).grow (HO9.alloc _) (by decide) (by decide) hgrow10;have HK10:Hid (∀j,j<v9.heap.size->(Value.slice A2 l2 c2).ownBlock≠some j->w10.heap[j]?=v9.heap[j]?):=fun j h1 h2=>(hgrow10.block j (by rw [sA];omega) (fun e=>h2 e.symm)).trans ((zaa v9 _).block j h1)
     have HL10:Hid (Below w0.heap.size w0 v9->Below w0.heap.size w0 w10):=fun hb=>(hb.alloc hs9 _).grown hgrow10 (by rw [sA];omega) (fun k e=>(HO9.lt k e).1)
     have HO10:=hO hown10;clear hown10 hgrow10 hat10 hlt10;have HSt:Hid (∀j,j≠W.heap.size+3->(w10.setCell ⟨W.heap.size+3,0,none⟩ (.slice (some ⟨g10,0,none⟩) (ov.length+1) cap10)).heap[j]?=w10.heap[j]?):=fun j h=>bS _ _ _ _ h
     have HOld:Hid (∀j,j<y->j≠W.heap.size->j≠W.heap.size+3->(Value.slice A2 l2 c2).ownBlock≠some j->(w10.setCell ⟨W.heap.size+3,0,none⟩ (.slice (some ⟨g10,0,none⟩) (ov.length+1) cap10)).heap[j]?=w7.heap[j]?):=fun j h1 h2 h3 h4=>(HSt j h3).trans ((HK10 j (by rw [HZ9.out];have q1:=HX8.lt;omega) h4).trans ((HK9 j (by omega) h2).trans (HSz j h1 h2)))
     have HRvF:Hid (Rv E z w0 (.slice (some ⟨g,0,none⟩) E.l.length ct) (w10.setCell ⟨W.heap.size+3,0,none⟩ (.slice (some ⟨g10,0,none⟩) (ov.length+1) cap10)) st8 i8 d8 A8 l8 c8 p8 q8):=by
      refine HRv.moved (fun hb=>(HL10 (HBl9 hb)).setCell (p:=⟨W.heap.size+3,0,none⟩) (by have:=HLo.out;show _<=W.heap.size+3;omega) _) (fun j hj=>?_) (fun j hj=>?_)
      ·have q1:=(HD7.t.lt j hj).2
       rw [hy] at q1;have q2:=HB7.s.ne HD7.t (by decide) hj;have q3:=HB7.g.ne HD7.t (by decide) hj;exact (HOld j q1 q2 q3 (fun e=>zbQ HD7.t HR7.1 (by decide) hj e)).trans (HSz j q1 q2).symm
      ·have q1:=HOw j hj
       have q2:=HYs.2;have q3:=HRv.olt hj;refine (HSt j (by omega)).trans ((HK10 j (by rw [HZ9.out];exact q3) (fun e=>?_)).trans (HK9 j (by omega) (by omega)));have:=(HR7.1.lt j e).2;omega
     have HLd:Hid (LdS E z w0 (.slice (some ⟨g,0,none⟩) E.l.length ct) W.heap.size R0 (w10.setCell ⟨W.heap.size+3,0,none⟩ (.slice (some ⟨g10,0,none⟩) (ov.length+1) cap10)) (.slice (some ⟨g7,0,none⟩) (ov.length+1) cap7) st8 i8 d8 A8 l8 c8 p8 q8 (.slice (some ⟨g10,0,none⟩) (ov.length+1) cap10)/\mD W.heap.size E.l.length (w10.setCell ⟨W.heap.size+3,0,none⟩ (.slice (some ⟨g10,0,none⟩) (ov.length+1) cap10))<E.l.length+1 - a):=by
      have hBF:=HB10.sg (.slice (some ⟨g10,0,none⟩) (ov.length+1) cap10);have hs8:=HS8.out;have hRv:=HRvF.out;have hOw:=HOw.out
      cases hg:gN E 0 b 0 with
      | inr q =>
       have e1:st8=.inr q:=by rw [hs8,hg];rfl
       subst e1;refine ⟨⟨hBF,hRv,⟨_,_,_,rfl⟩,?_⟩,?_⟩
       ·show R0=.inr q
        rw [HG2.out,hg]
       ·have h1:=HBd.out
        rw [mDb_no hBF.s (by rw [hRv.1];exact HEr q hg)];omega
      | inl p =>
       have e1:st8=.inl (p.1,0,p.2):=by rw [hs8,hg];rfl
       subst e1;have hA:=HAd p hg;have h1:=HBd.out;have h2:=HNf.out;have hi8:i8=(p.1:Int)/\q8=0:=⟨hRv.2.2.1,hRv.1⟩;refine ⟨⟨hBF,hRv,⟨_,_,_,rfl⟩,rfl,ov++[((a,tx,p.2),.slice A8 l8 c8)],f,⟨?_,?_,?_⟩,?_,?_,?_⟩,?_⟩
       ·rw [lA,zfc,zkM]
        exact zam HO10 fun j hj=>HSt j (HB10.g.ne HO10 (by decide) hj)
       ·rw [lA,show plW E z (ov++[((a,tx,p.2),.slice A8 l8 c8)])=plW E z ov++[.int .i64 pl] from by unfold plW;rw [List.map_append];show _++[Value.int .i64 (plA E z a)]=_;rw [HPl.out]]
        refine zam HP7 fun j hj=>HOld j (by rw [<-hy];exact (HP7.lt j hj).2) (HB7.s.ne HP7 (by decide) hj) (HB7.g.ne HP7 (by decide) hj) (fun e=>zbQ HP7.out HR7.1 (by decide) hj e)
       ·refine Bds.push (HR7.2.same fun x hx j hj=>HOld j (by rw [<-hy];exact ((HR7.2.e x hx).lt j hj).2) (HB7.s.ne (HR7.2.e x hx) (by decide) hj) (HB7.g.ne (HR7.2.e x hx) (by decide) hj) (fun e=>zbQ (HR7.2.e x hx) HR7.1 (by decide) hj e)) _ (by have h5:=hRv.2.2.2.2.1;have h6:=hRv.2.2.2.2.2.o;rw [h5] at h6 ⊢;exact h6) fun x hx j hj e=>?_
        have q1:=((HR7.2.e x hx).lt j hj).2;have q2:=hOw j e;omega
       ·rw [lA]
        show ov.length+1<=p.1
        omega
       ·show E.l.length<f+p.1
        omega
       ·rw [HG2.out,hg,List.map_append]
        rfl
       ·obtain ⟨e3,e4⟩:=hi8
        subst e3 e4;rw [zm2 hBF.s];omega
     have q10:=HB10.g.cl;have qf10:=HB10.g.fz;clear HOld HSt HRvF HK10 HL10 HO10 HB10 HO9 HBl9 HZ9 HK9 HX9 HB9 HXs HBs HEs HE9 HSz HS8 HRv HX8 HB8 HOw;go_wp2_with fail;go_roundw
     case rel=>exact ⟨_,_,_,_,_,_,_,_,_,HLd.1⟩
     case measure =>
      rw [HM.out];exact HLd.2
    | false =>
     have HV:Hid (R0=.inr (a,60)):=by
      show R0=_
      rw [HG.out,iP hlt,iN (by rw [hru];decide)]
     obtain ⟨pl6,hpl6⟩:∃x,plA E z a=x:=⟨_,rfl⟩;have HFl:Hid (∀W',Below w6.heap.size w6 W'->Cl 32 #[rdV (.slice (some ⟨g,0,none⟩) E.l.length ct) a z 0 (.slice A1 l1 c1) 0 0,.int .i64 60] W' (rB W' (rdV (.slice (some ⟨g,0,none⟩) E.l.length ct) a z 0 (.slice A1 l1 c1) pl6 60))):=fun W' hW=>by
      have:=zbj (HD6.later hW) z 0 0 60;rw [hpl6] at this;exact this
     have HP6:=hO hpl6;have HL6:Hid (Below w0.heap.size w0 w6):=HD6.bl;clear HG hlt hru hpl6 HR6 HD6;have HBR:=HB6;obtain ⟨k0,k1,k2,k3,k4,k5,k6⟩:=HBR.s.cl;go_wp2_with fail;clear k0 k1 k2 k3 k4 k5 k6;have HS:Hid (∀w',Below w6.heap.size w6 w'->(w'.cell? ⟨W.heap.size,0,none⟩=some (.slice (some ⟨g,0,none⟩) E.l.length ct)/\w'.cell? ⟨W.heap.size,1,none⟩=some (.int .i64 a)/\w'.cell? ⟨W.heap.size,2,none⟩=some (.int .i64 z)/\w'.cell? ⟨W.heap.size,3,none⟩=some (.int .i64 0)/\w'.cell? ⟨W.heap.size,4,none⟩=some (.slice A1 l1 c1)/\w'.cell? ⟨W.heap.size,5,none⟩=some (.int .i64 0)/\w'.cell? ⟨W.heap.size,6,none⟩=some (.int .i64 0))/\(w'.frozen? ⟨W.heap.size+1,0,none⟩=false/\w'.frozen? ⟨W.heap.size+1,1,none⟩=false/\w'.frozen? ⟨W.heap.size+1,2,none⟩=false/\w'.frozen? ⟨W.heap.size+1,3,none⟩=false/\w'.frozen? ⟨W.heap.size+1,4,none⟩=false/\w'.frozen? ⟨W.heap.size+1,5,none⟩=false/\w'.frozen? ⟨W.heap.size+1,6,none⟩=false)/\w'.frozen? ⟨W.heap.size+2,0,none⟩=false/\w'.cell? ⟨W.heap.size+3,0,none⟩=some (.slice A2 l2 c2)):=fun w' hb=>⟨(HBR.later hb).s.cl,(HBR.later hb).r.fzs,(HBR.later hb).o.fz,(HBR.later hb).g.cl⟩
     have HRc:=(show Hid _ from fun w' (hb:Below w6.heap.size w6 w')=>(HBR.later hb).r.cl);have HOc:=(show Hid _ from fun w' (hb:Below w6.heap.size w6 w')=>(HBR.later hb).o.cl);obtain ⟨⟨k0,k1,k2,k3,k4,k5,k6⟩,_,_,cg⟩:=HS w6.drew (bR _ _).drew;go_region_law (refine zit zmp rfl _ _ _ _ (by rfl) (rdV (.slice (some ⟨g,0,none⟩) E.l.length ct) a z 0 (.slice A1 l1 c1) 0 0) (.int .i64 60) (by rfl) (by rfl) ?_;with_reducible refine (HFl.out _ (bR _ _).drew).mono ?_;rintro e wA ⟨rfl,bA⟩;refine ⟨_,rfl,?_⟩;have hb8:Below w6.heap.size w6 wA:=(bR _ _).drew.trans (bA.mono (show w6.heap.size<=w6.drew.heap.size from nL _));obtain ⟨⟨h0,h1,h2,h3,h4,h5,h6⟩,⟨j0,j1,j2,j3,j4,j5,j6⟩,jo,jg⟩:=HS.out wA hb8;obtain ⟨m0,m1,m2,m3,m4,m5,m6⟩:=HRc.out wA hb8;have mo:=HOc.out wA hb8)
     all_goals
      go_wp2_with fail;have hB:=HBR.later hb8;have hF:=hB.fin (.slice (some ⟨g,0,none⟩) E.l.length ct) (.int .i64 a) (.int .i64 z) (.int .i64 0) (.slice A1 l1 c1) (.int .i64 pl6) (.int .i64 60) (.slice A2 l2 c2);refine zeI rfl rfl rfl rfl rfl hF.1 hF.2 ?_
      show RdD E z w0 (.slice (some ⟨g,0,none⟩) E.l.length ct) R0 _ _
      rw [HV.out];exact ⟨_,_,_,_,_,_,_,_,_,by rw [<-HP6.out],(zaq (HL6.trans (hb8.mono HL6.size)) (k:=W.heap.size+1) (by have:=HLo.out;omega) _ _ _ _ _ _ _).setCell (p:=⟨W.heap.size+1+1,0,none⟩) (by have:=HLo.out;show _<=W.heap.size+1+1;omega) _⟩
   ·have t1:¬(a:Int)<(E.l.length:Int):=by omega
    have HV:Hid (R0=.inl (ov.map (·.1))):=by
     show R0=_
     rw [HG.out,iN hlt]
    clear HG HRu hlt;go_wp2_with fail;refine (HOk4 _).mono ?_;rintro e w5 ⟨rfl,hb⟩;have HBR:=hO (HB4.later hb);have HR5:=hO (HR4.later hb);have HL5:Hid (Below w0.heap.size w0 w5):=(HD4.later hb).bl;clear hb HOk4 HB4 HD4 HR4 k0 k1 k2 k3 k4 k5 k6;obtain ⟨k0,k1,k2,k3,k4,k5,k6⟩:=HBR.s.cl;go_wp2_with fail;clear k0 k1 k2 k3 k4 k5 k6;obtain ⟨k0,k1,k2,k3,k4,k5,k6⟩:=HBR.s.cl;obtain ⟨f0,f1,f2,f3,f4,f5,f6⟩:=HBR.r.fzs;obtain ⟨m0,m1,m2,m3,m4,m5,m6⟩:=HBR.r.cl;have fo:=HBR.o.fz;have mo:=HBR.o.cl;have cg:=HBR.g.cl;go_region
    all_goals
     go_wp2_with fail;have hF:=HBR.fin (.slice (some ⟨g,0,none⟩) E.l.length ct) (.int .i64 a) (.int .i64 z) (.int .i64 0) (.slice A1 l1 c1) (.int .i64 0) (.int .i64 0) (.slice A2 l2 c2);have hF1:=hF.1.drew;have hF2:=hF.2.drew;have hF3:Below w0.heap.size w0 (World.drew ((st7 w5 (W.heap.size+1) (.slice (some ⟨g,0,none⟩) E.l.length ct) (.int .i64 a) (.int .i64 z) (.int .i64 0) (.slice A1 l1 c1) (.int .i64 0) (.int .i64 0)).setCell ⟨W.heap.size+1+1,0,none⟩ (.slice A2 l2 c2))):=((zaq HL5 (k:=W.heap.size+1) (by have:=HLo.out;omega) (.slice (some ⟨g,0,none⟩) E.l.length ct) (.int .i64 a) (.int .i64 z) (.int .i64 0) (.slice A1 l1 c1) (.int .i64 0) (.int .i64 0)).setCell (p:=⟨W.heap.size+1+1,0,none⟩) (by have:=HLo.out;show _<=W.heap.size+1+1;omega) (.slice A2 l2 c2)).drew;refine zeI rfl rfl rfl rfl rfl hF1 hF2 ?_
     show RdD E z w0 (.slice (some ⟨g,0,none⟩) E.l.length ct) R0 _ _
     rw [HV.out];have hfin:=HR5.fin HBR (.slice (some ⟨g,0,none⟩) E.l.length ct) (.int .i64 a) (.int .i64 z) (.int .i64 0) (.slice A1 l1 c1) (.int .i64 0) (.int .i64 0) (.slice A2 l2 c2);have hfin2:=hfin.drew;exact ⟨_,_,_,_,_,_,_,ov,rfl,rfl,hfin2.o,hfin2.b,hfin2.p,hF3⟩
  ·have HB4:=hO HL.1
   have h9:q3=qq.2/\p3=plA E z qq.1/\qq.2≠0/\Below w0.heap.size w0 wr:=HL.2.1;have HQ:Hid (p3=plA E z qq.1/\q3=qq.2):=⟨h9.2.1,h9.1⟩;have HV:Hid (R0=.inr qq):=HL.2.2.2;have HBl:Hid (Below w0.heap.size w0 wr):=h9.2.2.2;have HOk4:Hid (∀W,Cl 28 #[rdV (.slice (some ⟨g,0,none⟩) E.l.length ct) i3 z d3 (.slice A1 l1 c1) p3 q3] W (rB W (.bool false))):=fun W=>by
    have:=HOk i3 d3 A1 l1 c1 p3 q3 W;rw [show (q3==0)=false from by rw [h9.1];simpa using h9.2.2.1] at this;exact this
   clear HL h9 HOk HRu;obtain ⟨k0,k1,k2,k3,k4,k5,k6⟩:=HB4.s.cl;go_wp2_with fail;refine (HOk4 _).mono ?_;rintro e w5 ⟨rfl,hb⟩;have HBR:=hO (HB4.later hb);have HL5:Hid (Below w0.heap.size w0 w5):=HBl.trans (hb.mono HBl.size);clear hb HOk4 HB4 HBl k0 k1 k2 k3 k4 k5 k6;obtain ⟨k0,k1,k2,k3,k4,k5,k6⟩:=HBR.s.cl;go_wp2_with fail;clear k0 k1 k2 k3 k4 k5 k6;obtain ⟨k0,k1,k2,k3,k4,k5,k6⟩:=HBR.s.cl;obtain ⟨f0,f1,f2,f3,f4,f5,f6⟩:=HBR.r.fzs;obtain ⟨m0,m1,m2,m3,m4,m5,m6⟩:=HBR.r.cl;have fo:=HBR.o.fz;have mo:=HBR.o.cl;have cg:=HBR.g.cl;go_region
   all_goals
    go_wp2_with fail;have hF:=HBR.fin (.slice (some ⟨g,0,none⟩) E.l.length ct) (.int .i64 i3) (.int .i64 z) (.int .i64 d3) (.slice A1 l1 c1) (.int .i64 p3) (.int .i64 q3) (.slice A2 l2 c2);have hF1:=hF.1.drew;have hF2:=hF.2.drew;have hF3:Below w0.heap.size w0 (World.drew ((st7 w5 (W.heap.size+1) (.slice (some ⟨g,0,none⟩) E.l.length ct) (.int .i64 i3) (.int .i64 z) (.int .i64 d3) (.slice A1 l1 c1) (.int .i64 p3) (.int .i64 q3)).setCell ⟨W.heap.size+1+1,0,none⟩ (.slice A2 l2 c2))):=((zaq HL5 (k:=W.heap.size+1) (by have:=HLo.out;omega) (.slice (some ⟨g,0,none⟩) E.l.length ct) (.int .i64 i3) (.int .i64 z) (.int .i64 d3) (.slice A1 l1 c1) (.int .i64 p3) (.int .i64 q3)).setCell (p:=⟨W.heap.size+1+1,0,none⟩) (by have:=HLo.out;show _<=W.heap.size+1+1;omega) (.slice A2 l2 c2)).drew;refine zeI rfl rfl rfl rfl rfl hF1 hF2 ?_
    show RdD E z w0 (.slice (some ⟨g,0,none⟩) E.l.length ct) R0 _ _
    rw [HV.out];exact ⟨_,_,_,_,_,_,_,_,_,by rw [<-HQ.1,<-HQ.2],hF3⟩
theorem zeJ {E:PE} (hE:OkE E) {z:Nat} {w0 W:World} {At:Option Addr} {ct:Nat} (h:DS E w0 W (.slice At E.l.length ct) 0 0 (.slice none 0 0) []):Calls Tryz.prog 27 #[rdV (.slice At E.l.length ct) 0 z 0 (.slice none 0 0) 0 0] W fun e W'=>RdD E z w0 (.slice At E.l.length ct) (rdN E) e W':=by
 cases hr:ruB E 0 with
 | true=>exact zmq hE h hr
 | false =>
  rw [zj6 (by rw [hr];decide)];exact zmo hE h hr
theorem zmr (v:Value) (w:World):(Instr.typeAssert (.iface 27 v) 20 27 true).run Tryz.prog w=.ok (.tuple #[v,.bool true]) w:=by kernel_rfl
theorem ret_fx {fn:Func} {R:Ending->World->Prop} {a:Act} {W:World} {b:Nat} {p e:Int} (hF:fn.results=#[.cell 2 27]) (hd:a.defers=[]) (h2:a.tmps.getD 2 undef=.pointer (some ⟨b,0,none⟩)) (hT:FX W b p e) (hR:R (.returned (.agg #[.int .i64 p,.int .i64 e])) W):bodyPost Tryz.prog fn R .ret a W:=by
 have c0:=hT.c0;have c1:=hT.c1;refine bodyPost_ret (v:=.agg #[.int .i64 p,.int .i64 e]) ?_ hd hR;simp only [Array.getD_eq_getD_getElem?] at h2;simp [results,hF,go_sem,h2,c0,c1]
abbrev fxZ:Obj:=.cells #[.int .i64 0,.int .i64 0] 27
theorem ziu (a c:Int) (W:World):Calls Tryz.prog 21 #[.iface 27 (.agg #[.int .i64 a,.int .i64 c])] W (rB W (.agg #[.int .i64 a,.int .i64 c])):=by
 have has:=zmr;have hnot:∀(x:Bool) (w:World),(Op.unary .not (.bool x)).run Tryz.prog w=.ok (.bool (!x)) w:=fun _ _=>rfl
 go_enter Tryz.func21,Tryz.ntmps21;go_wp2_with fail;refine ret_fx (b:=W.heap.size) (p:=a) (e:=c) rfl rfl rfl ((FX.mk (heap_alloc_new W _)).below (zaa _ _)) ⟨rfl,((bR _ _).alloc (nL _) _).alloc (by rw [sA];omega) _⟩
theorem zgn (p:Nat) (x y a c:Int) (older:List PanicEntry) (w:World) (hx:FX w p x y) :
  CallsD Tryz.prog 30 #[.pointer (some ⟨p,0,none⟩)] (.panicking ({ v:=.iface 27 (.agg #[.int .i64 a,.int .i64 c]),recovered:=false }::older)) w fun e u' w' =>
   e=.returned (.tuple #[])/\u'=.panicking ({ v:=.iface 27 (.agg #[.int .i64 a,.int .i64 c]),recovered:=true }::older)/\FX w' p a c/\Fr w w' p (.slice none 0 0) (.slice none 0 0)/\Below p w w':=by
 have HR:Hid (∀W,Cl 21 #[.iface 27 (.agg #[.int .i64 a,.int .i64 c])] W (rB W (.agg #[.int .i64 a,.int .i64 c]))):=fun W=>ziu a c W
 have HX:Hid (FX w p x y):=hx;refine callsD_of_wpS Tryz.func30 rfl fun c₀ cs hu=>?_
 apply wpS_seq
 apply wpS_region
 simp [wpOpsS,go_sem,recoverD,hu,Tryz.ntmps30,Exit.thenS]
 refine wpS_of_wp ?_;have ht:(#[Value.pointer (some ⟨p,0,none⟩)]++((Array.replicate 6 undef).setIfInBounds 1 (.iface 27 (.agg #[.int .i64 a,.int .i64 c]))).setIfInBounds 0 (.iface 27 (.agg #[.int .i64 a,.int .i64 c])):Array Value)=#[.pointer (some ⟨p,0,none⟩),.iface 27 (.agg #[.int .i64 a,.int .i64 c]),.iface 27 (.agg #[.int .i64 a,.int .i64 c]),undef,undef,undef,undef]:=rfl;rw [ht];clear ht hu hx;go_wp2_with fail;refine (HR _).mono ?_;rintro e w1 ⟨rfl,hb⟩;have H1:=hO (HX.below hb);have HB:Hid (Below w.heap.size w w1):=hb;have hlt:=HX.lt;clear hb HR HX;have c0:=H1.c0;have c1:=H1.c1;have f0:=H1.f0;have f1':=H1.f1;go_wp2_with fail;refine ⟨rfl,_,rfl,.tuple #[],(by simp [results,Tryz.results30]),rfl,rfl,zfT H1 a c,(Fr.below p _ HB.out).trans ((Fr.set _ _ _ _ _).trans (Fr.set _ _ _ _ _)),zdw (HB.mono (Nat.le_of_lt hlt)) (nL _) a c⟩
theorem zhb (p:Nat) (w:World) :
  CallsD Tryz.prog 30 #[.pointer (some ⟨p,0,none⟩)] .returning w fun e u' w'=>e=.returned (.tuple #[])/\u'=.returning/\w'=w:=by
 refine callsD_of_wpS Tryz.func30 rfl fun c₀ cs hu=>?_
 apply wpS_seq
 apply wpS_region
 simp [wpOpsS,go_sem,recoverD,hu,Tryz.ntmps30,Exit.thenS]
 refine wpS_of_wp ?_;have ht:(#[Value.pointer (some ⟨p,0,none⟩)]++((Array.replicate 6 undef).setIfInBounds 1 Value.nilIface).setIfInBounds 0 Value.nilIface:Array Value)=#[.pointer (some ⟨p,0,none⟩),.nilIface,.nilIface,undef,undef,undef,undef]:=rfl;rw [ht];have HC:Hid (c₀::cs={ c₀ with mode:=.returning }::cs):=by show _=_;rw [<-hu]
 clear ht hu;go_wp2_with fail;exact ⟨rfl,_,HC.out,.tuple #[],(by simp [results,Tryz.results30]),rfl,rfl,rfl⟩
theorem zoT {R:Ending->World->Prop} {act:Act} {W:World} {k:Nat} {p c x y:Int} (hd:act.defers=[{ target:=.fn (.func 30) #[.pointer (some ⟨k,0,none⟩)],args:=#[] }]) (h2:act.tmps.getD 2 undef=.slice none 0 0) (h3:act.tmps.getD 3 undef=.pointer (some ⟨k,0,none⟩)) (hf:FX W k x y)
  (hR:∀W',Below k W W'->R (.returned (.tuple #[.slice none 0 0,.agg #[.int .i64 p,.int .i64 c]])) W') :
  bodyPostD Tryz.prog Tryz.f13 R (.panic [{ v:=.iface 27 (.agg #[.int .i64 p,.int .i64 c]),recovered:=false }]) act W:=by
 show Leaves _ _ _ _ act.defers _ _
 rw [hd];refine leaves_cons (f:=30) (args:=#[.pointer (some ⟨k,0,none⟩)]) (by simp) (by simp [go_sem]) ?_;refine (zgn k x y p c [] W hf).mono ?_;rintro e u' w' ⟨rfl,rfl,h4,h5,h6⟩;have d0:=h4.c0;have d1:=h4.c1;simp only [Array.getD_eq_getD_getElem?] at h2 h3;refine ⟨.tuple #[.slice none 0 0,.agg #[.int .i64 p,.int .i64 c]],?_,hR w' h6⟩;simp [results,Tryz.results13,go_sem,h2,h3,d0,d1]
theorem doorB {R:Ending->World->Prop} {act:Act} {W:World} {k:Nat} {p c:Int} {v:Value} (hd:act.defers=[{ target:=.fn (.func 30) #[.pointer (some ⟨k,0,none⟩)],args:=#[] }]) (h2:act.tmps.getD 2 undef=v) (h3:act.tmps.getD 3 undef=.pointer (some ⟨k,0,none⟩)) (hf:FX W k p c)
  (hR:R (.returned (.tuple #[v,.agg #[.int .i64 p,.int .i64 c]])) W) :
  bodyPostD Tryz.prog Tryz.f13 R .ret act W:=by
 show Leaves _ _ _ _ act.defers _ _
 rw [hd];refine leaves_cons (f:=30) (args:=#[.pointer (some ⟨k,0,none⟩)]) (by simp) (by simp [go_sem]) ?_;refine (zhb k W).mono ?_;rintro e u' w' ⟨rfl,rfl,rfl⟩;have d0:=hf.c0;have d1:=hf.c1;simp only [Array.getD_eq_getD_getElem?] at h2 h3;refine ⟨.tuple #[v,.agg #[.int .i64 p,.int .i64 c]],?_,hR⟩;simp [results,Tryz.results13,go_sem,h2,h3,d0,d1]
theorem zfO {E:PE} {z:Nat} {w0 W:World} {u:Value} {ov:List (Rl×Value)} (ho:W.ownsRow w0.heap.size 62 3 u ov.length (plc E z ov)) (hb:Bds w0 W ov) (htx:∀x∈ov,∀n∈x.1.2.2,n.tx.size<=65536) (hln:∀x∈ov,x.1.2.2.length<=2000000000000) (hn:ov.length<=65536):Calls Tryz.prog 24 #[u] W fun e W'=>GrV w0 W ov (szR E z (ov.map (·.1))) e W':=by
 unfold szR;rw [List.getElem?_map]
 cases h:ov[200]? with
 | some x=>exact zeV ho x h hn
 | none =>
  have hl:=List.getElem?_eq_none_iff.1 h;exact zfN ho hb htx hln hl
theorem FX.ne2 {W:World} {k B e s n:Nat} {u:Value} {p c:Int} {xs:List Value} (h:FX W k p c) (ho:W.ownsRow B e s u n xs) (he:e≠27) {j:Nat} (hj:u.ownBlock=some j):j≠k:=fun q=>by
 subst q;obtain ⟨cs,hc⟩:=zdV ho hj;rw [h.heap] at hc
 injection hc with h4
 injection h4 with _ h5
 exact he h5.symm
theorem kd_pos {s:ByteArray} {l:List Tk} (h:zbi (zaN s) s=.inl l):∀a,a<(mkE l).l.length->¬kdA (mkE l) a=0:=fun a ha q=>by
 have ha:a<l.length:=ha;unfold kdA mkE at q;rw [gE ha] at q;have h1:=(zkh h l[a] (List.getElem_mem ha)).r;unfold riF at h1;simp only [Bool.and_eq_true,decide_eq_true_eq] at h1;have q:(l[a]).kd=0:=q;omega
theorem rl_len {E:PE} (hE:OkE E):∀(f i:Nat) (out rs:List Rl),i<=E.l.length->out.length<=i->(∀r∈out,r.2.2.length<=2000000000000)->rlG (exN E) E f i out=.inl rs->rs.length<=E.l.length/\∀r∈rs,r.2.2.length<=2000000000000:=by
 intro f
 induction f with
 | zero=>intro i out rs hi h0 h1 h;rw [rlG] at h;cases h;exact ⟨by omega,h1⟩
 | succ f ih =>
  intro i out rs hi h0 h1 h;rw [rlG] at h;by_cases hlt:i<E.l.length
  ·rw [iP hlt] at h
   by_cases hr:ruB E i=true
   ·rw [iP hr] at h
    cases he:exN E (i+2) with
    | inr p=>rw [he] at h;cases h
    | inl p =>
     obtain ⟨a,ns⟩:=p;rw [he] at h;have h2:=zeZ (ziV hr) he;have h3:=(zbW hE.rl (m:=0) (d:=0) (ziV hr) (by omega) he).2;have h4:=hE.len;refine ih _ _ _ h2.2 (by rw [lA,List.length_singleton];show out.length+1<=a;omega) (fun r hr2=>?_) h
     rcases List.mem_append.1 hr2 with q | q
     ·exact h1 r q
     ·rw [List.mem_singleton.1 q];show ns.length<=_;omega
   ·rw [iN hr] at h;cases h
  ·rw [iN hlt] at h;cases h;exact ⟨by omega,h1⟩
theorem ex_len {E:PE} (hE:OkE E) {i a:Nat} {ns:List Nd} (hi:i<=E.l.length) (h:exN E i=.inl (a,ns)):ns.length<=2000000000000:=by
 have h2:=zeZ hi h;have h3:=(zbW hE.rl (m:=0) (d:=0) hi (by omega) h).2;have h4:=hE.len;omega
def AlV (E:PE) (z:Nat) (w0:World) (r:Sum (List Rl) (Nat×Int)) (e:Ending) (W':World):Prop:=match r with
 | .inr q=>e=pnc (plA E z q.1) q.2/\Below w0.heap.size w0 W'
 | .inl rs=>∃A c ns,rs=[(0,⟨#[]⟩,ns)]/\e=.returned (.agg #[.int .i64 (plA E z 0),.string ⟨#[]⟩,.slice A ns.length c])/\W'.ownsRow w0.heap.size 51 7 (.slice A ns.length c) ns.length (T.ndc ns)/\Below w0.heap.size w0 W'
theorem zeq {E:PE} (hE:OkE E) (hk0:∀a,a<E.l.length->¬kdA E a=0) {z:Nat} {w0:World} (hv:R.VB w0) {b:Nat} {tv:Value} {W:World} {v:Value} {L:List Nd} (h:RS E z w0 W b tv 0 0 v L):Calls Tryz.prog 26 #[.pointer (some ⟨b,0,none⟩)] W fun e W'=>AlV E z w0 (alN E) e W':=by
 unfold alN
 cases hx:exN E 0 with
 | inr q=>exact zoH hE hv h q hx
 | inl p =>
  obtain ⟨a,ns⟩:=p;have hal:=(zeZ (Nat.zero_le _) hx).2;dsimp only;by_cases hlt:a<E.l.length
  ·rw [iP hlt]
   exact zoI hE hv h a ns hx (hk0 a hlt)
  ·rw [iN hlt]
   refine (zmg hE hv h a ns hx (by rw [show a=E.l.length from by omega];exact zmF E)).mono ?_;rintro e W' ⟨v',rfl,h2,_⟩;obtain ⟨A,c,rfl⟩:=zag h2.o;exact ⟨A,c,ns,rfl,rfl,h2.o,h2.bl⟩
theorem zoU {E:PE} {z:Nat} {w0 W:World} (hw:w0.heap.size<=W.heap.size) (ns:List Nd) (v:Value):(W.alloc (.cells #[.int .i64 (plA E z 0),.string ⟨#[]⟩,v] 62)).ownsRow w0.heap.size 62 3 (.slice (some ⟨W.heap.size,0,none⟩) 1 1) 1 (plc E z [((0,⟨#[]⟩,ns),v)]):=by
 rw [zoM];exact ⟨rfl,.inr ⟨W.heap.size,1,_,rfl,hw,heap_alloc_new W _,nL _,by unfold maxLen;omega,rfl,rfl⟩⟩
theorem al_tx {E:PE} (hE:OkE E) {rs:List Rl} (h:alN E=.inl rs):∀r∈rs,(∀n∈r.2.2,n.tx.size<=65536)/\r.2.2.length<=2000000000000:=by
 unfold alN at h
 cases hx:exN E 0 with
 | inr q=>rw [hx] at h;cases h
 | inl p =>
  rw [hx] at h;dsimp only at h
  split at h
  ·cases h
  ·cases h
   intro r hr;rw [List.mem_singleton.1 hr];exact ⟨zoO hE hx,ex_len hE (Nat.zero_le _) hx⟩
def PaV (w w':World) (r:Sum (List (ByteArray×List Nd)) (Int×Int)) (e:Ending):Prop:=match r with
 | .inr p=>e=.returned (.tuple #[.slice none 0 0,.agg #[.int .i64 p.1,.int .i64 p.2]])
 | .inl gs=>∃v ns,gs=[(⟨#[]⟩,ns)]/\e=.returned (.tuple #[v,.agg #[.int .i64 0,.int .i64 0]])/\w'.ownsRow w.heap.size 51 7 v ns.length (T.ndc ns)
theorem zms (s:ByteArray) (w:World) (hg:GW w) (q:Nat×Int) (hq:zbi (zaN s) s=.inr q):Calls Tryz.prog 13 #[.string s] w (rB w (.tuple #[.slice none 0 0,.agg #[.int .i64 q.1,.int .i64 q.2]])):=by
 have hmf:∀(fn:Fn) (first cap:Array Value) (w:World),(Instr.makeFunc fn first cap).run Tryz.prog w=.ok (.func fn first cap) w:=fun _ _ _ _=>rfl
 have HB0:Hid (Below w.heap.size w (w.alloc fxZ)/\FX (w.alloc fxZ) w.heap.size 0 0):=⟨zaa _ _,⟨heap_alloc_new w _⟩⟩;have HN:Hid (∀_:Unit,Cl 22 #[.string s] (w.alloc fxZ) fun e w'=>e=pnc q.1 q.2/\Below (w.alloc fxZ).heap.size (w.alloc fxZ) w'):=fun _=>zgi s _ (hg.later HB0.1) q hq (zfK hq).2
 clear hg hq;go_enter_defers Tryz.func13,Tryz.ntmps13
 go_wp2_with fail;generalize w.alloc fxZ=w0 at *;refine (HN ()).mono ?_;rintro e w1 ⟨rfl,hb⟩;have hsz:=HB0.1.size;exact zoT rfl rfl rfl (HB0.2.below hb) fun W' hW'=>⟨rfl,(HB0.1.trans (hb.mono hsz)).trans hW'⟩
theorem ziv (s:ByteArray) (w:World) (hg:GW w) (l:List Tk) (hl:zbi (zaN s) s=.inl l):Calls Tryz.prog 13 #[.string s] w fun e w'=>PaV w w' (fin (mkE l) s.size (alN (mkE l))) e/\Below w.heap.size w w':=by
 have hE:=zeF hl;have hz:=hE.z;have hk0:=kd_pos hl;have hmf:∀(fn:Fn) (first cap:Array Value) (w:World),(Instr.makeFunc fn first cap).run Tryz.prog w=.ok (.func fn first cap) w:=fun _ _ _ _=>rfl
 have HB0:Hid (Below w.heap.size w (w.alloc fxZ)/\FX (w.alloc fxZ) w.heap.size 0 0):=⟨zaa _ _,⟨heap_alloc_new w _⟩⟩;have hgw:=hg.later HB0.1;have HN:Hid (∀_:Unit,Cl 22 #[.string s] (w.alloc fxZ) fun e w'=>∃b tv,e=.returned (.pointer (some ⟨b,0,none⟩))/\RS (mkE l) s.size (w.alloc fxZ) w' b tv 0 0 (.slice none 0 0) []):=fun _=>zgj s _ hgw l hl
 have HVB:Hid (R.VB (w.alloc fxZ)):=hgw.v;have HTx:Hid (∀rs,alN (mkE l)=.inl rs->∀r∈rs,(∀n∈r.2.2,n.tx.size<=65536)/\r.2.2.length<=2000000000000):=fun rs h=>al_tx hE h
 have HE:Hid (OkE (mkE l)/\(∀a,a<(mkE l).l.length->¬kdA (mkE l) a=0)):=⟨hE,hk0⟩;clear hg hgw hl hE hk0;generalize mkE l=E at *;go_enter_defers Tryz.func13,Tryz.ntmps13
 go_wp2_with fail;generalize w.alloc fxZ=w0 at *;refine (HN ()).mono ?_;rintro e w1 ⟨b,tv,rfl,h1⟩;have HRu:Hid (∀_:Unit,Cl 26 #[.pointer (some ⟨b,0,none⟩)] w1 fun e W'=>AlV E s.size w0 (alN E) e W'):=fun _=>zeq HE.1 HE.2 HVB h1
 have hsz:=HB0.1.size;clear h1 HN
 cases hrd:alN E with
 | inr q =>
  rw [hrd] at HRu;go_wp2_with fail;refine (HRu ()).mono ?_;rintro e w3 ⟨rfl,hb⟩;exact zoT rfl rfl rfl (HB0.2.below hb) fun W' hW'=>⟨by rw [hrd];rfl,(HB0.1.trans (hb.mono hsz)).trans hW'⟩
 | inl rs =>
  have hx1:=HTx rs hrd;rw [hrd] at HRu;go_wp2_with fail;refine (HRu ()).mono ?_;rintro e w3 ⟨A,c,ns,hrs,rfl,ho,hb3⟩;have hs3:=hb3.size;have HGr:Hid (∀_:Unit,Cl 24 #[.slice (some ⟨w3.heap.size,0,none⟩) 1 1] (w3.alloc (.cells #[.int .i64 (plA E s.size 0),.string ⟨#[]⟩,.slice A ns.length c] 62)) fun e W'=>GrV w0 (w3.alloc (.cells #[.int .i64 (plA E s.size 0),.string ⟨#[]⟩,.slice A ns.length c] 62)) [((0,⟨#[]⟩,ns),.slice A ns.length c)] (szR E s.size rs) e W'):=fun _=>by
   rw [hrs];refine zfO (ov:=[((0,⟨#[]⟩,ns),.slice A ns.length c)]) (zoU hs3 ns _) ⟨fun x hx=>by rw [List.mem_singleton.1 hx];exact ho.alloc _,List.pairwise_singleton _ _⟩ ?_ ?_ (by simp)
   ·intro x hx;rw [List.mem_singleton.1 hx];exact (hx1 (0,⟨#[]⟩,ns) (by rw [hrs];exact List.mem_singleton.2 rfl)).1
   ·intro x hx;rw [List.mem_singleton.1 hx];exact (hx1 (0,⟨#[]⟩,ns) (by rw [hrs];exact List.mem_singleton.2 rfl)).2
  have HB3:Hid (Below w0.heap.size w0 (w3.alloc (.cells #[.int .i64 (plA E s.size 0),.string ⟨#[]⟩,.slice A ns.length c] 62))/\(w3.alloc (.cells #[.int .i64 (plA E s.size 0),.string ⟨#[]⟩,.slice A ns.length c] 62)).ownsRow w0.heap.size 51 7 (.slice A ns.length c) ns.length (T.ndc ns)/\rs=[(0,⟨#[]⟩,ns)]):=⟨hb3.alloc hs3 _,ho.alloc _,hrs⟩;clear ho hrs hb3 HRu HTx hx1;generalize plA E s.size 0=p0 at *
  cases hsr:szR E s.size rs with
  | some p =>
   rw [hsr] at HGr;go_wp2_with fail;refine (HGr ()).mono ?_;rintro e w4 ⟨rfl,hb⟩;have hb4:=HB3.1.trans (hb.mono HB3.1.size);exact zoT rfl rfl rfl (HB0.2.below hb4) fun W' hW'=>⟨by rw [hrd];unfold fin;simp only [hsr];rfl,(HB0.1.trans (hb4.mono hsz)).trans hW'⟩
  | none =>
   rw [hsr] at HGr;go_wp2_with fail;refine (HGr ()).mono ?_;rintro e w4 ⟨gu,rfl,ho,hb⟩;obtain ⟨g4,n4,rfl,_,hglt⟩:=ho.form (by simp);have hcl:=ho.cells (g:=g4) rfl;have hb4:=HB3.1.trans (hb.mono HB3.1.size);have hcell:w4.cell? ⟨g4,1,none⟩=some (.slice A ns.length c):=by
    have:=hcl 1 (.slice A ns.length c) rfl
    rwa [Addr.add_lit,Nat.zero_add] at this
   have HO:Hid ((w4.alloc (.cells #[.slice (some ⟨g4,0,none⟩) 1 n4] 24)).ownsRow w0.heap.size 51 7 (.slice A ns.length c) ns.length (T.ndc ns)/\Below w0.heap.size w0 (w4.alloc (.cells #[.slice (some ⟨g4,0,none⟩) 1 n4] 24))/\FX (w4.alloc (.cells #[.slice (some ⟨g4,0,none⟩) 1 n4] 24)) w.heap.size 0 0):=⟨zk0 (zk0 HB3.2.1 hb) (zaa _ _),hb4.alloc hb4.size _,(HB0.2.below hb4).below (zaa _ _)⟩;have hcell2:=((zaa w4 (.cells #[.slice (some ⟨g4,0,none⟩) 1 n4] 24)).cell (p:=⟨g4,1,none⟩) hglt).trans hcell;have hg0:(w4.alloc (.cells #[.slice (some ⟨g4,0,none⟩) 1 n4] 24)).cell? ⟨w4.heap.size,0,none⟩=some (.slice (some ⟨g4,0,none⟩) 1 n4):=(GX.mk (heap_alloc_new w4 _)).cl;have hf4:=HB0.2.below hb4;have d0:=hf4.c0;have d1:=hf4.c1;have e0:=hf4.f0;have e1:=hf4.f1;have d0':=HO.2.2.c0;have d1':=HO.2.2.c1;have e0':=HO.2.2.f0;have e1':=HO.2.2.f1;clear hcl ho hb hb4 HGr hcell hf4;go_wp2_with fail;exact doorB rfl rfl rfl (zfT HO.2.2 0 0) ⟨by rw [hrd];unfold fin;simp only [hsr];exact ⟨_,ns,by rw [HB3.2.2];rfl,rfl,zbx (zam HO.1 fun j hj=>zeo 0 0 (FX.ne2 HO.2.2 HO.1 (by decide) hj)) hsz⟩,zdw (HB0.1.trans (HO.2.1.mono hsz)) (nL _) 0 0⟩
theorem zhO (s:ByteArray) (w:World) (hg:GW w):Calls Tryz.prog 13 #[.string s] w fun e w'=>PaV w w' (paR s) e/\Below w.heap.size w w':=by
 unfold paR
 cases hl:zbi (zaN s) s with
 | inr q=>exact zms s w hg q hl
 | inl l=>exact ziv s w hg l hl
def who (E:PE) (ns:List Nd):Prop:=exN E 0=.inl (E.l.length,ns)
theorem zkN {E:PE} {z:Nat}:∀(rs:List Rl) (all:Nat),all<=2048->zdZ E z all rs=none->(∀r∈rs,(T.ck r.2.2).2=0)/\all+(rs.map fun r=>r.2.2.length).sum<=2048:=by
 intro rs
 induction rs with
 | nil=>intro all ha _;exact ⟨fun r hr=>(by cases hr),by simpa using ha⟩
 | cons r rs ih =>
  intro all ha h;rw [zdZ] at h;by_cases h1:(T.ck r.2.2).2≠0
  ·rw [iP h1] at h;cases h
  ·rw [iN h1] at h
   by_cases h2:2048<all+r.2.2.length
   ·rw [iP h2] at h;cases h
   ·rw [iN h2] at h
    obtain ⟨h3,h4⟩:=ih _ (by omega) h;refine ⟨fun x hx=>?_,by rw [List.map_cons,List.sum_cons];omega⟩
    rcases List.mem_cons.1 hx with rfl | q
    ·exact Decidable.not_not.1 h1
    ·exact h3 x q
theorem zmt {E:PE} {z:Nat} {rs:List Rl} (h:szR E z rs=none):rs.length<=200/\(∀r∈rs,(T.ck r.2.2).2=0)/\(rs.map fun r=>r.2.2.length).sum<=2048:=by
 unfold szR at h
 cases hr:rs[200]? with
 | some r=>rw [hr] at h;cases h
 | none =>
  rw [hr] at h;obtain ⟨h1,h2⟩:=zkN rs 0 (by omega) h;exact ⟨List.getElem?_eq_none_iff.1 hr,h1,by omega⟩
theorem zkO {E:PE} {z:Nat}:∀(rs:List Rl) (all:Nat) (p:Int×Int),zdZ E z all rs=some p->p.2≠0/\∃i,p.1=plA E z i:=by
 intro rs
 induction rs with
 | nil=>intro all p h;rw [zdZ] at h;cases h
 | cons r rs ih =>
  intro all p h;rw [zdZ] at h;by_cases h1:(T.ck r.2.2).2≠0
  ·rw [iP h1] at h;cases h;exact ⟨h1,_,rfl⟩
  ·rw [iN h1] at h
   by_cases h2:2048<all+r.2.2.length
   ·rw [iP h2] at h;cases h;exact ⟨by show (2:Int)≠0;decide,_,rfl⟩
   ·rw [iN h2] at h;exact ih _ _ h
theorem zhP {E:PE} {z:Nat} {rs:List Rl} {p:Int×Int} (h:szR E z rs=some p):p.2≠0/\∃i,p.1=plA E z i:=by
 unfold szR at h
 cases hr:rs[200]? with
 | some r=>rw [hr] at h;cases h;exact ⟨by show (2:Int)≠0;decide,_,rfl⟩
 | none=>rw [hr] at h;exact zkO rs 0 p h
theorem zoV {E:PE} {q:Nat×Int} (h:alN E=.inr q):q.2=60∨q.2=61∨q.2=4∨q.2=1:=by
 unfold alN at h
 cases hx:exN E 0 with
 | inr p=>rw [hx] at h;cases h;exact (ziU (Nat.zero_le _) hx).2
 | inl p =>
  rw [hx] at h;dsimp only at h
  split at h
  ·cases h;exact .inl rfl
  ·cases h
theorem chn_fr {s:ByteArray}:∀(l:List Tk) (i:Nat),Chn s i l->∀t∈l,0<=t.fr/\t.fr<=s.size:=by
 intro l
 induction l with
 | nil=>intro i _ t ht;cases ht
 | cons a l ih =>
  intro i h t ht;obtain ⟨h1,h2,e,_,_,_,h3⟩:=h
  rcases List.mem_cons.1 ht with rfl | h4
  ·have:=zos h2;omega
  ·exact ih e h3 t h4
theorem zm3 {s:ByteArray} {l:List Tk} (h:zbi (zaN s) s=.inl l) (i:Nat):0<=plA (mkE l) s.size i/\plA (mkE l) s.size i<=s.size:=by
 unfold plA
 split
 ·next hi =>
  have hi:i<l.length:=hi;have:tkA (mkE l) i=l[i]:=by unfold tkA mkE;rw [gE hi];rfl
  rw [this];exact chn_fr l 0 (zg4 h).2 _ (List.getElem_mem hi)
 ·omega
theorem zoW {s:ByteArray} {l:List Tk} (hl:zbi (zaN s) s=.inl l) {r:Sum (List Rl) (Nat×Int)} (hr:∀q,r=.inr q->q.2=60∨q.2=61∨q.2=4∨q.2=1) {p:Int×Int} (h:fin (mkE l) s.size r=.inr p):p.2≠0/\0<=p.1/\p.1<=s.size:=by
 unfold fin at h
 cases r with
 | inr q =>
  cases h
  have h1:=hr q rfl;have h2:=zm3 hl q.1;exact ⟨by show q.2≠0;omega,h2.1,h2.2⟩
 | inl rs =>
  dsimp only at h
  cases hs:szR (mkE l) s.size rs with
  | none=>rw [hs] at h;cases h
  | some x =>
   rw [hs] at h
   cases h
   obtain ⟨h1,i,h2⟩:=zhP hs;have h3:=zm3 hl i;rw [h2];exact ⟨h1,h3.1,h3.2⟩
theorem zoX {s:ByteArray} {p:Int×Int} (h:paR s=.inr p):p.2≠0/\0<=p.1/\p.1<=s.size:=by
 unfold paR at h
 cases hl:zbi (zaN s) s with
 | inr q =>
  rw [hl] at h
  cases h
  have:=zfK hl;exact ⟨this.2,by show (0:Int)<=(q.1:Int);omega,by show (q.1:Int)<=_;omega⟩
 | inl l=>rw [hl] at h;exact zoW hl (fun q hq=>zoV hq) h
theorem fin_ok {E:PE} {z:Nat} {r:Sum (List Rl) (Nat×Int)} {gs:List (ByteArray×List Nd)} (h:fin E z r=.inl gs):∃rs,r=.inl rs/\szR E z rs=none/\gs=rs.map fun r=>r.2:=by
 unfold fin at h
 cases r with
 | inr q=>cases h
 | inl rs =>
  dsimp only at h
  cases hs:szR E z rs with
  | some x=>rw [hs] at h;cases h
  | none=>rw [hs] at h;cases h;exact ⟨rs,rfl,hs,rfl⟩
theorem alN_ok {E:PE} {rs:List Rl} (h:alN E=.inl rs):∃ns,rs=[(0,⟨#[]⟩,ns)]/\who E ns:=by
 unfold alN at h
 cases hx:exN E 0 with
 | inr p=>rw [hx] at h;cases h
 | inl p =>
  obtain ⟨a,ns⟩:=p;rw [hx] at h;dsimp only at h;have:=(zeZ (Nat.zero_le _) hx).2
  split at h
  ·cases h
  ·cases h
   refine ⟨ns,rfl,?_⟩;unfold who;rw [hx,show a=E.l.length from by omega]
theorem zm4 {s:ByteArray} {gs:List (ByteArray×List Nd)} (h:paR s=.inl gs):∃l ns,zbi (zaN s) s=.inl l/\gs=[(⟨#[]⟩,ns)]/\who (mkE l) ns/\(T.ck ns).2=0/\ns.length<=2048:=by
 unfold paR at h
 cases hl:zbi (zaN s) s with
 | inr q=>rw [hl] at h;cases h
 | inl l =>
  rw [hl] at h;obtain ⟨rs,h1,h2,h3⟩:=fin_ok h;obtain ⟨ns,h4,h5⟩:=alN_ok h1;subst h4;obtain ⟨_,h6,h7⟩:=zmt h2;refine ⟨l,ns,rfl,h3,h5,h6 _ (List.mem_singleton.2 rfl),by simpa using h7⟩
theorem zoY {E:PE} {ns:List Nd} (h:who E ns):alN E=.inl [(0,⟨#[]⟩,ns)]:=by
 unfold alN;unfold who at h;rw [h]
 show (if E.l.length<E.l.length then _ else _)=_
 rw [iN (Nat.lt_irrefl _)]
theorem zoZ {E:PE} {z:Nat} {ns:List Nd} (h1:(T.ck ns).2=0) (h2:ns.length<=2048):szR E z [(0,⟨#[]⟩,ns)]=none:=by
 unfold szR
 show zdZ E z 0 [(0,⟨#[]⟩,ns)]=none
 rw [zdZ,iN (by rw [h1];simp),iN (by show ¬2048<0+ns.length;omega),zdZ]
theorem zo0 {s:ByteArray} {l:List Tk} {ns:List Nd} (hl:zbi (zaN s) s=.inl l) (h:who (mkE l) ns) (h1:(T.ck ns).2=0) (h2:ns.length<=2048):paR s=.inl [(⟨#[]⟩,ns)]:=by
 unfold paR;rw [hl]
 show fin (mkE l) s.size (alN (mkE l))=_
 rw [zoY h];unfold fin;simp only [zoZ h1 h2];rfl
def dot:ByteArray:=⟨#[46]⟩
theorem zo1:zbi (zaN dot) dot=.inl [⟨18,0,0,1,⟨#[]⟩,0,0,0,0⟩]:=rfl
theorem ex_dot:exN (mkE [⟨18,0,0,1,⟨#[]⟩,0,0,0,0⟩]) 0=.inl (1,[nd0 3]):=rfl
theorem ck_any:(T.ck [nd0 3]).2=0:=by
 have e:(⟨#[]⟩:ByteArray)=ByteArray.empty:=rfl;simp [nd0,T.ck,T.zlf,T.er,T.alE,T.fdF,T.txF,T.nuF,T.seF,T.ar,T.run,T.pt,T.mk,T.arN,T.zdB,e]
theorem pa_dot:paR dot=.inl [(⟨#[]⟩,[nd0 3])]:=zo0 zo1 ex_dot ck_any (by simp)
theorem zm5 (a b c d:Int) (W:World):(binOp .eql 27 (.agg #[.int .i64 a,.int .i64 b]) (.agg #[.int .i64 c,.int .i64 d])).run Tryz.prog W=.ok (.bool (a==c&&b==d)) W:=by
 have h:=eq26 a b c d W;have e:Op.maxDepth=10000:=rfl;simp [binOp,Op.equal,e,h]
theorem zkP (w:World) (hg:GW w):Calls Tryz.prog 11 #[] w (rB w (.bool true)):=by
 have HP:Hid (∀_:Unit,Cl 13 #[.string ⟨#[46]⟩] w fun e w'=>(∃v,e=.returned (.tuple #[v,.agg #[.int .i64 0,.int .i64 0]])/\w'.ownsRow w.heap.size 51 7 v 1 (T.ndc [nd0 3]))/\Below w.heap.size w w'):=fun _=>by
  refine (zhO dot w hg).mono ?_;rintro e w' ⟨h1,h2⟩;rw [pa_dot] at h1;obtain ⟨v,ns,h3,h4,h5⟩:=h1;have e1:[nd0 3]=ns:=by
   injection h3 with h6 _
   injection h6 with _ h8
  subst e1;exact ⟨⟨v,h4,h5⟩,h2⟩
 have hfe:=zm5;clear hg;go_enter Tryz.func11,Tryz.ntmps11;go_wp2_with fail;refine (HP ()).mono ?_;rintro e w1 ⟨⟨v,rfl,ho⟩,hb⟩;obtain ⟨g,c,rfl,_,hlt⟩:=ho.form (by decide);have hc:w1.cell? ⟨g,0,none⟩=some (.int .i64 3):=by
  have:=ho.cells (g:=g) rfl 0 (.int .i64 3) rfl
  rwa [Addr.add_lit,Nat.zero_add] at this
 have hc2:∀o,(w1.alloc o).cell? ⟨g,0,none⟩=some (.int .i64 3):=fun o=>((zaa w1 o).cell (p:=⟨g,0,none⟩) hlt).trans hc
 have HB:Hid (Below w.heap.size w w1):=hb;have hn:¬g=w1.heap.size:=by omega
 clear hb ho HP;go_wp2_with fail;go_ret
 exact ⟨rfl,HB.alloc HB.size _⟩
theorem zo2 (L:List (Rl×Value)):∀(k j:Nat) (x:Rl×Value) (u:Value),L[k]?=some x->(grV x)[j]?=some u->(grc L)[k * 2+j]?=some u:=by
 induction L with
 | nil=>intro k j t u h;simp at h
 | cons a L ih =>
  intro k j t u h hj;have e:grc (a::L)=grV a++grc L:=by unfold grc;rw [List.flatMap_cons]
  have hl:(grV a).length=2:=rfl;rw [e]
  cases k with
  | zero =>
   have h:a=t:=by simpa using h
   subst h;rw [Nat.zero_mul,Nat.zero_add,List.getElem?_append_left (by have:=(List.getElem?_eq_some_iff.1 hj).1;omega)];exact hj
  | succ k =>
   rw [List.getElem?_append_right (by omega),hl,show (k+1) * 2+j - 2=k * 2+j from by omega];exact ih k j t u (by simpa using h) hj
theorem zm6 {W:World} {B:Nat} {u:Value} {ov:List (Rl×Value)} (h:W.ownsRow B 41 2 u ov.length (grc ov)):∃A c,u=.slice A ov.length c/\∀(k:Nat) x,ov[k]?=some x->∃g,A=some ⟨g,0,none⟩/\g<W.heap.size/\W.cell? ⟨g,k * 2,none⟩=some (.string x.1.2.1)/\W.cell? ⟨g,k * 2+1,none⟩=some x.2:=by
 have hc:=h
 rcases h.2 with ⟨rfl,h0⟩ | ⟨g,cap,cur,rfl,_⟩
 ·refine ⟨none,0,by rw [h0],fun k x hk=>?_⟩
  rw [List.eq_nil_of_length_eq_zero h0] at hk;simp at hk
 ·refine ⟨_,cap,rfl,fun k x hk=>⟨g,rfl,(hc.lt g rfl).2,?_⟩⟩
  have key:∀j u,(grV x)[j]?=some u->W.cell? ⟨g,k * 2+j,none⟩=some u:=fun j u hj=>by
   have:=(hc.cells (g:=g) rfl) (k * 2+j) u (zo2 ov k j x u hk hj)
   rwa [Addr.add_lit,Nat.zero_add] at this
  exact ⟨key 0 _ rfl,key 1 _ rfl⟩
theorem zhQ {fn:Func} {R:Ending->World->Prop} {a:Act} {W:World} {s b:Nat} {p e:Int} (hF:fn.results=#[.cell s 27]) (hd:a.defers=[]) (h2:a.tmps.getD s undef=.pointer (some ⟨b,0,none⟩)) (hT:FX W b p e) (hR:R (.returned (.agg #[.int .i64 p,.int .i64 e])) W):bodyPost Tryz.prog fn R .ret a W:=by
 have c0:=hT.c0;have c1:=hT.c1;refine bodyPost_ret (v:=.agg #[.int .i64 p,.int .i64 e]) ?_ hd hR;simp only [Array.getD_eq_getD_getElem?] at h2;simp [results,hF,go_sem,h2,c0,c1]
theorem zkQ {W:World} {b:Nat} {p e:Int} (h:FX W b p e) (p2 e2:Int):FX ((W.setCell ⟨b,0,none⟩ (.int .i64 p2)).setCell ⟨b,1,none⟩ (.int .i64 e2)) b p2 e2:=by
 have h0:=heap_setCell_same _ b 0 _ 27 (.int .i64 p2) h.heap;have h1:=heap_setCell_same _ b 1 _ 27 (.int .i64 e2) h0;exact ⟨by rw [h1];simp⟩
def fltV (r:Option (Int×Int)):Value:=match r with
 | none=>.agg #[.int .i64 0,.int .i64 0]
 | some p=>.agg #[.int .i64 p.1,.int .i64 p.2]
theorem Rws.at {E:PE} {z:Nat} {w0 W:World} {u pv:Value} {ov:List (Rl×Value)} (h:Rws E z w0 W u pv ov) {k:Nat} {x:Rl×Value} (hx:ov[k]?=some x):∃g c,pv=.slice (some ⟨g,0,none⟩) ov.length c/\g<W.heap.size/\W.cell? ⟨g,k,none⟩=some (.int .i64 (plA E z x.1.1)):=by
 have hk:k<ov.length:=(List.getElem?_eq_some_iff.1 hx).1;obtain ⟨g,c,e,_,hl⟩:=h.p.form (by omega);subst e;refine ⟨g,c,rfl,hl,?_⟩;have:=h.p.cells (g:=g) rfl k (.int .i64 (plA E z x.1.1)) (by unfold plW;rw [List.getElem?_map,hx];rfl)
 rcases k with _ | k
 ·simpa [Addr.add] using this
 ·simpa [Addr.add] using this
structure AtZ (W wr:World) (u:Value):Prop where
 b:Below W.heap.size W wr
 g:GX wr W.heap.size u
 f:FX wr (W.heap.size+1) 0 0
theorem AtZ.later {W wr W':World} {u:Value} (h:AtZ W wr u) (hb:Below wr.heap.size wr W'):AtZ W W' u:=⟨h.b.trans (hb.mono h.b.size),h.g.below hb,h.f.below hb⟩
theorem AtZ.new (W:World) (u:Value):AtZ W ((W.alloc (.cells #[u] 24)).alloc fxZ) u :=
 ⟨((bR _ _).alloc (nL _) _).alloc (by rw [sA];omega) _,(GX.mk (heap_alloc_new W _)).below (zaa _ _),⟨by have h:=heap_alloc_new (W.alloc (.cells #[u] 24)) fxZ;(try unfold rB at h);rw [sA] at h;exact h⟩⟩
theorem AtZ.done {W wr:World} {u:Value} (h:AtZ W wr u) (p c:Int):FX ((wr.setCell ⟨W.heap.size+1,0,none⟩ (.int .i64 p)).setCell ⟨W.heap.size+1,1,none⟩ (.int .i64 c)) (W.heap.size+1) p c/\Below W.heap.size W ((wr.setCell ⟨W.heap.size+1,0,none⟩ (.int .i64 p)).setCell ⟨W.heap.size+1,1,none⟩ (.int .i64 c)) :=
 ⟨zkQ h.f p c,(h.b.setCell (p:=⟨W.heap.size+1,0,none⟩) (Nat.le_succ _) _).setCell (p:=⟨W.heap.size+1,1,none⟩) (Nat.le_succ _) _⟩
theorem ziw {E:PE} {z:Nat} {w0 W:World} {u pv:Value} {ov:List (Rl×Value)} (h:Rws E z w0 W u pv ov) (x:Rl×Value) (hx:ov[200]?=some x) (hN:ov.length<=65536):Calls Tryz.prog 29 #[.agg #[u],pv] W (rB W (.agg #[.int .i64 (plA E z x.1.1),.int .i64 2])):=by
 obtain ⟨g,c,rfl,lg,hc⟩:=h.at hx;have hk:200<ov.length:=(List.getElem?_eq_some_iff.1 hx).1;obtain ⟨A2,c2,hu⟩:=zag h.o;subst hu;generalize plA E z x.1.1=pl at *;have HA:=hO (AtZ.new W (.slice A2 ov.length c2));have hc1:(((W.alloc (.cells #[.slice A2 ov.length c2] 24)).alloc fxZ)).cell? ⟨g,200,none⟩=some (.int .i64 pl):=(HA.b.cell (p:=⟨g,200,none⟩) lg).trans hc;have z1:(200:Int)<(ov.length:Int):=by omega
 have q0:=HA.g.cl;have q1:=HA.f.c0;have q2:=HA.f.c1;have q3:=HA.f.f0;have q4:=HA.f.f1;obtain ⟨w1,hw1⟩:∃w,(W.alloc (.cells #[.slice A2 ov.length c2] 24)).alloc fxZ=w:=⟨_,rfl⟩;rw [hw1] at HA hc1 q0 q1 q2 q3 q4;have HE:=hO hw1;clear h hx hc lg hw1 hk;go_enter Tryz.func29,Tryz.ntmps29;go_wp2_with (rw [HE.out])
 have hd:=HA.done pl 2;refine zhQ (s:=4) rfl rfl rfl hd.1 ?_;exact ⟨rfl,hd.2⟩
theorem zhc {E:PE} {z:Nat} {w0 W:World} {u pv:Value} {ov:List (Rl×Value)} (h:Rws E z w0 W u pv ov) (htx:∀x∈ov,∀n∈x.1.2.2,n.tx.size<=65536) (hln:∀x∈ov,x.1.2.2.length<=2000000000000) (hN:ov.length<=200):Calls Tryz.prog 29 #[.agg #[u],pv] W (rB W (fltV (zdZ E z 0 (ov.map (·.1))))):=by
 obtain ⟨A2,c2,hu⟩:=zag h.o;obtain ⟨A5,c5,hpv⟩:=zag h.p;subst hu hpv;have HR:=hO h;have HTx:=hO htx;have HLn:=hO hln;have HG:Hid (∀k,k<ov.length->∃x,ov[k]?=some x/\x∈ov):=fun k hk=>⟨_,gE hk,List.getElem_mem hk⟩
 have HA:=hO (AtZ.new W (.slice A2 ov.length c2));have z2:¬(200:Int)<(ov.length:Int):=by omega
 have HZ0:Hid (zdZ E z 0 (ov.map (·.1))=zdZ E z (smN ov 0) ((ov.drop 0).map (·.1))):=rfl;generalize zdZ E z 0 (ov.map (·.1))=R0 at *;have q0:=HA.g.cl;obtain ⟨w1,hw1⟩:∃w,(W.alloc (.cells #[.slice A2 ov.length c2] 24)).alloc fxZ=w:=⟨_,rfl⟩;rw [hw1] at HA q0;have HE:=hO hw1;clear h htx hln hw1;go_enter Tryz.func29,Tryz.ntmps29;go_wp2_with (rw [HE.out])
 clear q0 HE;go_loopw [5,6] (fun s t wr=>∃k:Nat,k<=ov.length/\smN ov k<=2048/\s=.int .i64 (smN ov k:Nat)/\t=.int .i64 k/\Hid (AtZ W wr (.slice A2 ov.length c2))/\Hid (R0=zdZ E z (smN ov k) ((ov.drop k).map (·.1)))) (fun _ t _=>ov.length - (intOf t).toNat)
 case atStart=>exact ⟨0,Nat.zero_le _,Nat.zero_le _,rfl,rfl,HA,HZ0⟩
 case round =>
  obtain ⟨k,hk,hsm,rfl,rfl,HW,HRk⟩:=hrel;clear HA HZ0;have q0:=HW.g.cl;by_cases hlt:k<ov.length
  ·obtain ⟨x,hx,hxm⟩:=HG k hlt
   have HSz:Hid (R0=if (T.ck x.1.2.2).2≠0 then some (plA E z x.1.1,(T.ck x.1.2.2).2) else if 2048<smN ov k+x.1.2.2.length then some (plA E z x.1.1,2) else zdZ E z (smN ov (k+1)) ((ov.drop (k+1)).map (·.1))):=by
    show R0=_
    rw [HRk.out,List.drop_eq_getElem_cons hlt,show ov[k]=x from (List.getElem?_eq_some_iff.1 hx).2,List.map_cons,zdZ,zeh hx]
   have hsm1:=zeh hx;obtain ⟨m1,hm1⟩:∃m,m=smN ov (k+1):=⟨_,rfl⟩;rw [<-hm1] at hsm1 HSz;have hRw:=HR.later HW.b;obtain ⟨gp,cp,ep,lp,hp⟩:=hRw.at hx
   cases ep
   obtain ⟨A1,c1,e1,hc⟩:=zm6 hRw.o;obtain ⟨g,hgA,hglt,d0,d1⟩:=hc k x hx
   cases e1
   subst hgA;have hb1:=hRw.b.e x hxm;obtain ⟨A3,n3,hv3⟩:=zag hb1;have HCk:Hid (Cl 52 #[.slice A3 x.1.2.2.length n3] wr (rB wr (.tuple #[.int .i64 (T.ck x.1.2.2).1,.int .i64 (T.ck x.1.2.2).2]))):=by
    rw [hv3] at hb1;obtain ⟨A4,c4,e4,hrd⟩:=T.zhM hb1 rfl
    cases e4
    exact T.zis _ _ _ (by have:=HLn x hxm;omega) (fun n hn=>by have:=HTx x hxm n hn;omega) wr hrd
   have hlx:=HLn x hxm;rw [hv3] at d1;have HX:Hid (∀W',Below wr.heap.size wr W'->W'.cell? ⟨g,k * 2+1,none⟩=some (.slice A3 x.1.2.2.length n3)/\W'.cell? ⟨gp,k,none⟩=some (.int .i64 (plA E z x.1.1))):=fun W' hW=>⟨(hW.cell (p:=⟨g,k * 2+1,none⟩) hglt).trans d1,(hW.cell (p:=⟨gp,k,none⟩) lp).trans hp⟩
   obtain ⟨d2,d3⟩:=HX wr (bR _ _);clear d0 d1 hx hxm hb1 hv3 hc hRw hp HG HRk HTx HLn HR;generalize T.ck x.1.2.2=r at *;generalize x.1.2.2.length=nl at *;generalize plA E z x.1.1=p0 at *;have z0:(0:Int)<=(k:Int):=by omega
   have z1:(k:Int)<(ov.length:Int):=by omega
   go_wp2_with fail;refine HCk.mono ?_;rintro e w2 ⟨rfl,hb2⟩;have HW2:=hO (HW.later hb2);obtain ⟨y0,y1⟩:=HX w2 hb2;have g0:=HW2.g.cl;have q1:=HW2.f.c0;have q2:=HW2.f.c1;have q3:=HW2.f.f0;have q4:=HW2.f.f1;clear hb2 HCk HX HW q0 d2 d3;by_cases hr2:r.2=0
   ·have t1:(r.2 != 0)=false:=by rw [hr2];rfl
    have u1:IntKind.i64.wrap ((smN ov k:Nat)+(nl:Int))=(m1:Int):=by rw [wI];omega
    by_cases h48:2048<m1
    ·have HV:Hid (R0=some (p0,2)):=by show R0=_;rw [HSz.out,iN (by rw [hr2];simp),iP (by omega)]
     have t2:(2048:Int)<(m1:Int):=by omega
     clear HSz hr2 hsm1 hm1;generalize smN ov k=s0 at *;go_wp2_with fail;have hd:=HW2.done p0 2;refine zhQ (s:=4) rfl rfl rfl hd.1 ?_;exact ⟨by rw [HV.out];rfl,hd.2⟩
    ·have HV:Hid (R0=zdZ E z m1 ((ov.drop (k+1)).map (·.1))):=by show R0=_;rw [HSz.out,iN (by rw [hr2];simp),iN (by omega)]
     have t2:¬(2048:Int)<(m1:Int):=by omega
     have HM:Hid (m1=smN ov (k+1)):=hm1;clear HSz hr2 hsm1 hm1;generalize hs0:smN ov k=s0 at *;clear hs0;go_wp2_with fail;go_roundw
     case rel=>exact ⟨k+1,by omega,by rw [<-HM.out];omega,by rw [<-HM.out],by go_num,HW2,by rw [<-HM.out];exact HV⟩
     case measure=>simp [intOf];omega
   ·have t1:(r.2 != 0)=true:=by simpa using hr2
    have HV:Hid (R0=some (p0,r.2)):=by show R0=_;rw [HSz.out,iP hr2]
    clear HSz hr2 hsm1 hm1;generalize smN ov k=s0 at *;go_wp2_with fail;have hd:=HW2.done p0 r.2;refine zhQ (s:=4) rfl rfl rfl hd.1 ?_;exact ⟨by rw [HV.out];rfl,hd.2⟩
  ·obtain rfl:k=ov.length:=by omega
   have HV:Hid (R0=none):=by show R0=_;rw [HRk.out,List.drop_of_length_le (nL _)];rfl
   have q1:=HW.f.c0;have q2:=HW.f.c1;have q3:=HW.f.f0;have q4:=HW.f.f1;clear HG HRk HR HTx HLn;generalize smN ov ov.length=s0 at *;go_wp2_with fail;have hd:=HW.done 0 0;refine zhQ (s:=4) rfl rfl rfl hd.1 ?_;exact ⟨by rw [HV.out];rfl,hd.2⟩
theorem zm7 {E:PE} {z:Nat} {w0 W:World} {u pv:Value} {ov:List (Rl×Value)} (h:Rws E z w0 W u pv ov) (htx:∀x∈ov,∀n∈x.1.2.2,n.tx.size<=65536) (hln:∀x∈ov,x.1.2.2.length<=2000000000000) (hN:ov.length<=65536):Calls Tryz.prog 29 #[.agg #[u],pv] W (rB W (fltV (szR E z (ov.map (·.1))))):=by
 unfold szR;rw [List.getElem?_map]
 cases hx:ov[200]? with
 | some x=>exact ziw h x hx hN
 | none=>exact zhc h htx hln (by have:=List.getElem?_eq_none_iff.1 hx;omega)
open Go.Proofs.YtkihfkcmcdiajaaGreatDoor.T (RdN below_drewN node_neq ndE)
theorem sameq (A1 A2:Option Addr) (c1 c2:Nat) (L:List Nd) (hl:L.length<=140737488355328) (w:World) (h1:RdN w A1 L) (h2:RdN w A2 L) :
  Calls Tryz.prog 15 #[.slice A1 L.length c1,.slice A2 L.length c2] w fun e w'=>e=.returned (.bool true)/\∃m,w'=w.drewN m:=by
 have H1:=hO h1;have H2:=hO h2;have HG:Hid (∀k,k<L.length->∃m,L[k]?=some m/\L≠[]):=fun k hk=>⟨_,gE hk,by rintro rfl;simp at hk⟩
 clear h1 h2;go_enter Tryz.func15,Tryz.ntmps15;go_wp2_with fail;go_loopw [5] (fun t wr=>∃k:Nat,k<=L.length/\t=.int .i64 k/\Hid (∃m,wr=w.drewN m)) (fun t _=>L.length - (intOf t).toNat)
 case atStart=>exact ⟨0,by omega,by go_num,⟨0,rfl⟩⟩
 case round =>
  obtain ⟨k,hk,rfl,HW⟩:=hrel;by_cases hlt:k<L.length
  ·obtain ⟨n,hn1,nl⟩:=HG k hlt
   have hB:Below w.heap.size w wr:=by obtain ⟨m,rfl⟩:=HW.out;exact below_drewN (bR _ _) _
   obtain ⟨g1,o1,rfl,l1,q1⟩:=H1 nl;obtain ⟨g2,o2,rfl,l2,q2⟩:=H2 nl;obtain ⟨a0,a1,a2,a3,a4,a5,a6⟩:=(q1.same (hB.block g1 l1)) k n hn1;obtain ⟨d0,d1,d2,d3,d4,d5,d6⟩:=(q2.same (hB.block g2 l2)) k n hn1;have z0:(0:Int)<=(k:Int):=by omega
   have z1:(k:Int)<(L.length:Int):=by omega
   clear HG H1 H2 q1 q2 nl hn1 hB;have hneq:=node_neq n n;rw [T.zli] at hneq;go_wp2_with fail;go_quiet (fail)
   have HW2:Hid (∃m,wr.drewN nq=w.drewN m):=by obtain ⟨m,e⟩:=HW.out;exact ⟨m+nq,by rw [e,World.drewN_drewN]⟩
   generalize wr.drewN nq=w2 at *;clear hneq a0 a1 a2 a3 a4 a5 a6 d0 d1 d2 d3 d4 d5 d6 HW;go_wp2_with fail;go_roundw
   case rel=>exact ⟨k+1,by omega,by go_num,HW2⟩
   case measure=>simp [intOf];omega
  ·obtain rfl:k=L.length:=by omega
   clear HG H1 H2;go_wp2_with fail;go_ret
   exact ⟨rfl,HW.out⟩
def GrR (W:World) (u:Value) (gs:List (ByteArray×List Nd)):Prop:=∃A c,u=.slice A gs.length c/\∀(k:Nat) g,gs[k]?=some g->∃b A2 c2,A=some ⟨b,0,none⟩/\b<W.heap.size/\W.cell? ⟨b,k * 2,none⟩=some (.string g.1)/\W.cell? ⟨b,k * 2+1,none⟩=some (.slice A2 g.2.length c2)/\RdN W A2 g.2
theorem GrR.of {w W:World} {u:Value} {ov:List (Rl×Value)} (h:W.ownsRow w.heap.size 41 2 u ov.length (grc ov)) (hb:Bds w W ov):GrR W u (ov.map fun x=>x.1.2):=by
 obtain ⟨A,c,e,hc⟩:=zm6 h;refine ⟨A,c,by rw [List.length_map];exact e,fun k g hg=>?_⟩;rw [List.getElem?_map] at hg
 cases hx:ov[k]? with
 | none=>rw [hx] at hg;cases hg
 | some x =>
  rw [hx] at hg;obtain rfl:x.1.2=g:=by simpa using hg
  obtain ⟨b,h1,h2,h3,h4⟩:=hc k x hx;obtain ⟨A2,c2,h5,h6⟩:=T.zhM (hb.e x (List.mem_of_getElem? hx)) rfl;exact ⟨b,A2,c2,h1,h2,h3,by rw [h4,h5],h6⟩
end Go.Proofs.YtkihfkcmcdiajaaGreatDoor.N
namespace Go.Proofs.YtkihfkcmcdiajaaGreatDoor
open Go.RowKit
def sgF (s:ByteArray) (b n k:Nat):Bool:=decide ((sgn k).length=n)&&pfx s b (sgn k)
def sgL (s:ByteArray) (b n:Nat):Nat->Nat->Option Nat
 | 0,_=>none
 | f+1,k=>if sgF s b n k=true then some k else sgL s b n f (k+1)
abbrev zo3 (b n k:Nat):Tk:=⟨k,0,b,(b+n:Nat),⟨#[]⟩,0,0,0,0⟩
def sgR (s:ByteArray) (b:Nat):Sum Tk (Nat×Int):=match sgL s b 2 30 1 with
 | some k=>.inl (zo3 b 2 k)
 | none=>match sgL s b 1 30 1 with
  | some k=>.inl (zo3 b 1 k)
  | none=>.inr (b,50)
def zd3 (c0 c1:Int) (n:Nat):Nat->Nat->Option Nat
 | 0,_=>none
 | f+1,k=>if (sgn k).length=n/\pfC c0 c1 (sgn k)=true then some k else zd3 c0 c1 n f (k+1)
theorem zo4 (k:Nat):(sgn k).length<=2:=by
 by_cases h6:k=6
 ·subst h6;decide
 by_cases h27:k=27
 ·subst h27;decide
 by_cases h7:k=7
 ·subst h7;decide
 by_cases h8:k=8
 ·subst h8;decide
 by_cases h9:k=9
 ·subst h9;decide
 by_cases h10:k=10
 ·subst h10;decide
 by_cases h11:k=11
 ·subst h11;decide
 by_cases h12:k=12
 ·subst h12;decide
 by_cases h16:k=16
 ·subst h16;decide
 by_cases h17:k=17
 ·subst h17;decide
 by_cases h18:k=18
 ·subst h18;decide
 by_cases h22:k=22
 ·subst h22;decide
 by_cases h23:k=23
 ·subst h23;decide
 by_cases h24:k=24
 ·subst h24;decide
 by_cases h25:k=25
 ·subst h25;decide
 by_cases h26:k=26
 ·subst h26;decide
 by_cases h19:k=19
 ·subst h19;decide
 by_cases h20:k=20
 ·subst h20;decide
 unfold sgn;simp [*]
theorem sgL_C (s:ByteArray) (b n:Nat):∀f k,sgL s b n f k=zd3 (chr s b) (chr s (b+1)) n f k:=by
 intro f
 induction f with
 | zero=>intro k;rfl
 | succ f ih =>
  intro k;rw [sgL,zd3,ih,sgF,pfx_C s b (sgn k) (zo4 k)];simp only [Bool.and_eq_true,decide_eq_true_eq]
def sgRC (c0 c1:Int):Int×Nat:=match zd3 c0 c1 2 30 1 with
 | some k=>(k,2)
 | none=>match zd3 c0 c1 1 30 1 with
  | some k=>(k,1)
  | none=>(0,0)
theorem sgRC_C (c0 c1:Int) (h37:c0≠37) (h94:c0≠94) (hg:¬(c0=123/\c1=58)):sgRC c0 c1=((sgC c0 c1).1,(sgC c0 c1).2.length):=by
 unfold sgRC sgC;rw [iN h37,iN h94];by_cases h60:c0=60
 ·subst h60
  by_cases a45:c1=45 <;> first | (exfalso;exact hg ⟨rfl,by assumption⟩) | (simp [zd3,sgn,pfC, *])
 by_cases h45:c0=45
 ·subst h45
  by_cases a62:c1=62 <;> first | (exfalso;exact hg ⟨rfl,by assumption⟩) | (simp [zd3,sgn,pfC, *])
 by_cases h47:c0=47
 ·subst h47
  simp [zd3,sgn,pfC]
 by_cases h38:c0=38
 ·subst h38
  simp [zd3,sgn,pfC]
 by_cases h33:c0=33
 ·subst h33
  simp [zd3,sgn,pfC]
 by_cases h63:c0=63
 ·subst h63
  simp [zd3,sgn,pfC]
 by_cases h42:c0=42
 ·subst h42
  simp [zd3,sgn,pfC]
 by_cases h43:c0=43
 ·subst h43
  simp [zd3,sgn,pfC]
 by_cases h40:c0=40
 ·subst h40
  simp [zd3,sgn,pfC]
 by_cases h41:c0=41
 ·subst h41
  simp [zd3,sgn,pfC]
 by_cases h46:c0=46
 ·subst h46
  simp [zd3,sgn,pfC]
 by_cases h123:c0=123
 ·subst h123
  by_cases a58:c1=58 <;> by_cases a124:c1=124 <;> by_cases a126:c1=126 <;> first | (exfalso;exact hg ⟨rfl,by assumption⟩) | (simp [zd3,sgn,pfC, *])
 by_cases h58:c0=58
 ·subst h58
  by_cases a125:c1=125 <;> first | (exfalso;exact hg ⟨rfl,by assumption⟩) | (simp [zd3,sgn,pfC, *])
 by_cases h124:c0=124
 ·subst h124
  by_cases a125:c1=125 <;> first | (exfalso;exact hg ⟨rfl,by assumption⟩) | (simp [zd3,sgn,pfC, *])
 by_cases h126:c0=126
 ·subst h126
  by_cases a125:c1=125 <;> first | (exfalso;exact hg ⟨rfl,by assumption⟩) | (simp [zd3,sgn,pfC, *])
 by_cases h125:c0=125
 ·subst h125
  simp [zd3,sgn,pfC]
 simp [zd3,sgn,pfC, *]
theorem sgR_C (s:ByteArray) (b:Nat):sgR s b=if (sgRC (chr s b) (chr s (b+1))).1=0 then .inr (b,50) else .inl ⟨(sgRC (chr s b) (chr s (b+1))).1,0,b,(b+(sgRC (chr s b) (chr s (b+1))).2:Nat),⟨#[]⟩,0,0,0,0⟩:=by
 have hpos:∀n f k j,1<=k->zd3 (chr s b) (chr s (b+1)) n f k=some j->1<=j:=by
  intro n f
  induction f with
  | zero=>intro k j _ h;cases h
  | succ f ih =>
   intro k j hk h;rw [zd3] at h
   split at h
   ·cases h;exact hk
   ·exact ih _ _ (by omega) h
 unfold sgR sgRC;rw [sgL_C,sgL_C]
 cases h2:zd3 (chr s b) (chr s (b+1)) 2 30 1 with
 | some k =>
  have:=hpos _ _ _ _ (by omega) h2;dsimp only;rw [iN (by omega)]
 | none =>
  dsimp only
  cases h1:zd3 (chr s b) (chr s (b+1)) 1 30 1 with
  | some k =>
   have:=hpos _ _ _ _ (by omega) h1;dsimp only;rw [iN (by omega)]
  | none=>dsimp only;rw [iP rfl]
end Go.Proofs.YtkihfkcmcdiajaaGreatDoor
