import Derived.Test.YtkihfkcmcdiajabGreatDoorPo17
set_option maxRecDepth 100000
set_option maxHeartbeats 8000000
namespace Go.Proofs.YtkihfkcmcdiajabGreatDoor.N
open Go.RowKit
def PoD (E:PE) (z:Nat) (w0:World) (tv:Value) (d:Nat) (W:World) (v:Value) (L:List Nd) (r:PR) (e:Ending) (W':World):Prop:=match r with
 | .inl p=>∃v',e=.returned (rdV tv p.1 z d v' 0 0)/\DS E w0 W' tv p.1 d v' (L++p.2)/\Fd W W' v v'
 | .inr q=>∃(i' d':Int) (A:Option Addr) (n c:Nat),e=.returned (rdV tv i' z d' (.slice A n c) (plA E z q.1) q.2)/\bW w0 W'/\Fd W W' v (.slice none 0 0)
def Cd (F:Nat) (E:PE) (z:Nat) (w0:World) (tv:Value) (i d:Nat) (r:PR):Prop :=
 ∀(W:World) (v:Value) (L:List Nd),DS E w0 W tv i d v L->L.length<=10027010 * i->Cl F #[rdV tv i z d v 0 0] W fun e W'=>PoD E z w0 tv d W v L r e W'
def mD (k n:Nat) (W:World):Nat:=match W.cell? ⟨k,6,none⟩,W.cell? ⟨k,1,none⟩ with
 | some (.int .i64 c),some (.int .i64 i)=>if c=0 then n+1 - i.toNat else 0
 | _,_=>0
theorem zdU {k n:Nat} {W:World} {tv:Value} {i:Nat} {z d:Int} {v:Value} {p:Int} (h:BX k W tv i z d v p 0):mD k n W=n+1 - i:=by
 obtain ⟨_,k1,_,_,_,_,k6⟩:=h.s.cl;unfold mD;rw [k1,k6];rfl
theorem mD_no {k n:Nat} {W:World} {tv:Value} {i z d:Int} {v:Value} {p c:Int} (h:BX k W tv i z d v p c) (hc:c≠0):mD k n W=0:=by
 obtain ⟨_,k1,_,_,_,_,k6⟩:=h.s.cl;unfold mD;rw [k1,k6]
 show (if c=0 then _ else _)=_
 rw [iN hc]
def SvD (E:PE) (z:Nat) (w0:World) (tv:Value) (i d:Nat) (W:World) (v0:Value) (L:List Nd) (gl:Nat) (R0:PR) (wr:World) (i3 d3:Int) (v:Value) (l1:Nat) (p3 q3:Int):Prop :=
 (∃(a:Nat) (M:List Nd),q3=0/\p3=0/\i3=a/\d3=d/\l1=(L++M).length/\i<a/\a<=E.l.length/\(L++M).length<=10027010 * a/\DS E w0 wr tv a d v (L++M)/\Fd W wr v0 v/\R0=ahd M (gN E gl a d))∨∃q,p3=plA E z q.1/\q3=q.2/\q.2≠0/\R0=.inr q/\bW w0 wr/\Fd W wr v0 (.slice none 0 0)
theorem Fd.weak {W W':World} {v v':Value} (h:Fd W W' v v'):Fd W W' v (.slice none 0 0):=⟨h.size,h.block,fun k q=>by cases q⟩
theorem zhV {E:PE} (hE:OkE E) {z:Nat} {w0:World} {tv:Value} {i d:Nat} (HS0:∀a,i<=a->a<=E.l.length->Cd 53 E z w0 tv a d (gN E 2 a d)):Cd 29 E z w0 tv i d (gN E 0 i d):=by
 intro W v L h hL;have hi:=h.hi;have hlen:=hE.len;have hz:=hE.z;have HE:=hO hE;have HS:Hid (∀a,i<=a->a<=E.l.length->Cd 53 E z w0 tv a d (gN E 2 a d)):=HS0;have HG:=hO (g0 E i d hi);obtain ⟨B,n,hv⟩:=zaf h.o;subst hv;have HX:=BX.new W tv i z d (.slice B L.length n) 0 0;have HBX:=hO HX.1;have HD:Hid (DS E w0 ((W.alloc (rdO tv i z d (.slice B L.length n) 0 0)).alloc rdZ) tv i d (.slice B L.length n) L):=h.later HX.2;have HF:Hid (Fd W ((W.alloc (rdO tv i z d (.slice B L.length n) 0 0)).alloc rdZ) (.slice B L.length n) (.slice B L.length n)):=Fd.below _ HX.2;have HC:Hid (∀W,DS E w0 W tv i d (.slice B L.length n) L->Cl 53 #[rdV tv i z d (.slice B L.length n) 0 0] W fun e W'=>PoD E z w0 tv d W (.slice B L.length n) L (gN E 2 i d) e W'):=fun W h=>HS0 i (nL _) hi W _ L h hL
 have hw0:=h.bl.size;obtain ⟨A,ct,htv,_⟩:=h.tk;subst htv;have HO:Hid (∀(i d:Int) (A1:Option Addr) (l1 c1:Nat) (p q:Int) W,Cl 15 #[rdV (.slice A E.l.length ct) i z d (.slice A1 l1 c1) p q] W (rB W (.bool (q==0)))):=fun i d A1 l1 c1 p q W=>zaP A E.l.length ct i z d A1 l1 c1 p q W
 have HI:Hid (∀R0:PR,∀q,R0=.inr q->∀W',bW w0 W'->Fd W W' (.slice B L.length n) (.slice none 0 0)->∀(i' d':Int) (A1:Option Addr) (l1 c1:Nat),PoD E z w0 (.slice A E.l.length ct) d W (.slice B L.length n) L R0 (.returned (rdV (.slice A E.l.length ct) i' z d' (.slice A1 l1 c1) (plA E z q.1) q.2)) W'):=fun R0 q hq W' h1 h2 i' d' A1 l1 c1=>by rw [hq];exact ⟨i',d',A1,l1,c1,rfl,h1,h2⟩
 generalize hR0:gN E 0 i d=R0 at *;clear h hE HS0 HX hR0;go_enter Tryz.func29,Tryz.ntmps29;go_wp2_with fail;generalize (W.alloc (rdO (.slice A E.l.length ct) i z d (.slice B L.length n) 0 0)).alloc rdZ=w1 at *;refine (HO _ _ _ _ _ _ _ _).mono ?_;rintro e w2 ⟨rfl,hb⟩;have HX2:=hO (HBX.later hb);have HD2:=hO (HD.later hb);have HF2:Hid (Fd W w2 (.slice B L.length n) (.slice B L.length n)):=HF.trans (Fd.below _ hb);clear hb HBX HD HF;obtain ⟨k0,k1,k2,k3,k4,k5,k6⟩:=HX2.s.cl;go_wp2_with fail;refine (HC _ HD2.out).mono ?_;intro e w3 hp;have HIv:Hid (∃(i3 d3:Int) (A1:Option Addr) (l1 c1:Nat) (p3 q3:Int),e=.returned (rdV (.slice A E.l.length ct) i3 z d3 (.slice A1 l1 c1) p3 q3)/\BX W.heap.size w3 (.slice A E.l.length ct) i z d (.slice B L.length n) 0 0/\SvD E z w0 (.slice A E.l.length ct) i d W (.slice B L.length n) L 1 R0 w3 i3 d3 (.slice A1 l1 c1) l1 p3 q3):=by
  show _
  cases hr:gN E 2 i d with
  | inr q =>
   rw [hr] at hp;obtain ⟨i',d',A1,l1,c1,rfl,h1,h2⟩:=hp;have hV:R0=.inr q:=by rw [HG.out,hr];rfl
   have hq:=(zbA hi (by omega) hr).2;exact ⟨i',d',A1,l1,c1,_,_,rfl,HX2.fd HD2.o h2,.inr ⟨q,rfl,rfl,by omega,hV,h1,HF2.trans h2⟩⟩
  | inl p =>
   obtain ⟨a,ns⟩:=p;rw [hr] at hp;obtain ⟨v',rfl,h1,h2⟩:=hp;have hadv:=zbN hi (by omega) hr;have hlenN:=(zbW HE.rl hi (by omega) hr).1 (by omega);obtain ⟨A1,c1,hv1⟩:=zaf h1.o;dsimp only at hv1 h1;subst hv1;exact ⟨_,_,A1,_,c1,_,_,rfl,HX2.fd HD2.o h2,.inl ⟨a,ns,rfl,rfl,rfl,rfl,rfl,hadv.2.2 (by omega),hadv.2.1,by rw [lA];omega,h1,HF2.trans h2,by rw [HG.out,hr];rfl⟩⟩
 clear hp HC HX2 HD2 HF2 HG;obtain ⟨i3,d3,A1,l1,c1,p3,q3,rfl,hX3,hS3⟩:=HIv.out;clear HIv;have HX3:=hO hX3;have HS3:=hO hS3;clear hX3 hS3;obtain ⟨k0,k1,k2,k3,k4,k5,k6⟩:=HX3.s.cl;obtain ⟨f0,f1,f2,f3,f4,f5,f6⟩:=HX3.s.fzs;go_wp2_with fail;have HIn:Hid (BX W.heap.size (st7 w3 W.heap.size (.slice A E.l.length ct) (.int .i64 i3) (.int .i64 z) (.int .i64 d3) (.slice A1 l1 c1) (.int .i64 p3) (.int .i64 q3)) (.slice A E.l.length ct) i3 z d3 (.slice A1 l1 c1) p3 q3/\SvD E z w0 (.slice A E.l.length ct) i d W (.slice B L.length n) L 1 R0 (st7 w3 W.heap.size (.slice A E.l.length ct) (.int .i64 i3) (.int .i64 z) (.int .i64 d3) (.slice A1 l1 c1) (.int .i64 p3) (.int .i64 q3)) i3 d3 (.slice A1 l1 c1) l1 p3 q3):=by
  refine ⟨HX3.st _ _ _ _ _ _ _,?_⟩
  rcases HS3.out with ⟨a,M,e1,e2,e3,e4,e5,e6,e7,e8,e9,e10,e11⟩ | ⟨q,e1,e2,e3,e4,e5,e6⟩
  ·exact .inl ⟨a,M,e1,e2,e3,e4,e5,e6,e7,e8,e9.st7 hw0 HX3.s _ _ _ _ _ _ _,e10.st7 (nL _) _ _ _ _ _ _ _,e11⟩
  ·exact .inr ⟨q,e1,e2,e3,e4,zaq e5 hw0 _ _ _ _ _ _ _,e6.st7 (nL _) _ _ _ _ _ _ _⟩
 clear HX3 HS3 k0 k1 k2 k3 k4 k5 k6 f0 f1 f2 f3 f4 f5 f6;go_loopw [9] (fun _ wr=>∃(i3 d3:Int) (A1:Option Addr) (l1 c1:Nat) (p3 q3:Int),Hid (BX W.heap.size wr (.slice A E.l.length ct) i3 z d3 (.slice A1 l1 c1) p3 q3/\SvD E z w0 (.slice A E.l.length ct) i d W (.slice B L.length n) L 1 R0 wr i3 d3 (.slice A1 l1 c1) l1 p3 q3)) (fun _ wr=>mD W.heap.size E.l.length wr)
 case atStart=>exact ⟨_,_,_,_,_,_,_,HIn⟩
 case round =>
  obtain ⟨i3,d3,A1,l1,c1,p3,q3,HW⟩:=hrel;clear HIn
  rcases HW.out with ⟨hX,⟨a,M,rfl,rfl,rfl,rfl,hl1,ha1,ha2,hlm,hD,hF,hR⟩ | ⟨q,rfl,rfl,hq,hR,hB,hF⟩⟩
  ·have HX4:=hO hX
   have HD4:Hid (DS E w0 wr (.slice A E.l.length ct) a d (.slice A1 l1 c1) (L++M)/\Fd W wr (.slice B L.length n) (.slice A1 l1 c1)):=⟨hD,hF⟩;have HM:Hid (mD W.heap.size E.l.length wr=E.l.length+1 - a):=zdU hX;have HR4:Hid (R0=ahd M (gN E 1 a d)):=hR;have HGa:=hO (g1 E a d ha2);have HOk:Hid (∀_:Unit,Cl 15 #[rdV (.slice A E.l.length ct) a z d (.slice A1 l1 c1) 0 0] wr (rB wr (.bool true))):=fun _=>HO a d A1 l1 c1 0 0 wr
   have HCo:Hid (∀W2,DS E w0 W2 (.slice A E.l.length ct) a d (.slice A1 l1 c1) (L++M)->Cl 39 #[rdV (.slice A E.l.length ct) a z d (.slice A1 l1 c1) 0 0,.int .i64 0] W2 (rB W2 (.int .i64 (kdA E a)))):=fun W2 h=>za4 h z d 0 0 0 a (by omega) (by omega) hz
   have HL1:Hid (l1=(L++M).length/\(L++M).length<=10027010 * a):=⟨hl1,hlm⟩;clear HW hX hD hF hR HO hl1 hlm;obtain ⟨k0,k1,k2,k3,k4,k5,k6⟩:=HX4.s.cl;go_wp2_with fail;refine (HOk ()).mono ?_;rintro e w5 ⟨rfl,hb⟩;have HX5:=hO (HX4.later hb);have HD5:Hid (DS E w0 w5 (.slice A E.l.length ct) a d (.slice A1 l1 c1) (L++M)/\Fd W w5 (.slice B L.length n) (.slice A1 l1 c1)):=⟨HD4.1.later hb,HD4.2.trans (Fd.below _ hb)⟩;clear hb HOk HX4 HD4 k0 k1 k2 k3 k4 k5 k6;obtain ⟨k0,k1,k2,k3,k4,k5,k6⟩:=HX5.s.cl;go_wp2_with fail;refine (HCo _ HD5.1).mono ?_;rintro e w6 ⟨rfl,hb⟩;have HX6:=hO (HX5.later hb);have HD6:Hid (DS E w0 w6 (.slice A E.l.length ct) a d (.slice A1 l1 c1) (L++M)/\Fd W w6 (.slice B L.length n) (.slice A1 l1 c1)):=⟨HD5.1.later hb,HD5.2.trans (Fd.below _ hb)⟩;clear hb HCo HX5 HD5 k0 k1 k2 k3 k4 k5 k6;by_cases hkk:kdA E a=7
   ·have hlt:a<E.l.length:=za9 (by omega)
    have t1:(kdA E a==7)=true:=by rw [hkk];rfl
    obtain ⟨j,hj⟩:∃j,j=a+1:=⟨_,rfl⟩;have u1:IntKind.i64.wrap ((a:Int)+1)=((a+1:Nat):Int):=by rw [wI];omega
    rw [<-hj] at u1;have hjl:j<=E.l.length:=by omega
    have HJ:Hid (a<=j/\j<=a+1):=⟨by omega,by omega⟩;have HSa:Hid (∀W2,DS E w0 W2 (.slice A E.l.length ct) j d (.slice A1 l1 c1) (L++M)->Cl 53 #[rdV (.slice A E.l.length ct) j z d (.slice A1 l1 c1) 0 0] W2 fun e W'=>PoD E z w0 (.slice A E.l.length ct) d W2 (.slice A1 l1 c1) (L++M) (gN E 2 j d) e W'):=fun W2 h=>HS j (by omega) hjl W2 _ _ h (Nat.le_trans HL1.2 (Nat.mul_le_mul_left _ HJ.1))
    have HX7:Hid (BX W.heap.size (w6.setCell ⟨W.heap.size,1,none⟩ (.int .i64 j)) (.slice A E.l.length ct) j z d (.slice A1 l1 c1) 0 0):=HX6.s1 j;have HD7:Hid (DS E w0 (w6.setCell ⟨W.heap.size,1,none⟩ (.int .i64 j)) (.slice A E.l.length ct) j d (.slice A1 l1 c1) (L++M)/\Fd W (w6.setCell ⟨W.heap.size,1,none⟩ (.int .i64 j)) (.slice B L.length n) (.slice A1 l1 c1)):=⟨(HD6.1.set hw0 HX6.s 1 _).at hjl,HD6.2.set (nL _) 1 _⟩;have HGj:Hid (gN E 1 a d=bnd (gN E 2 j d) fun b ns=>ahd (ns++[nd0 8]) (gN E 1 b d)):=by
     show gN E 1 a d=_
     rw [HGa.out,iP hkk,hj]
    obtain ⟨k0,k1,k2,k3,k4,k5,k6⟩:=HX6.s.cl;have g1:=HX6.s.fz 1;clear HGa hkk hj HD6 HS;go_wp2_with fail;refine (HSa _ HD7.1).mono ?_;intro e w8 hp;clear k0 k1 k2 k3 k4 k5 k6 g1 HSa HX6
    cases hr:gN E 2 j d with
    | inr q =>
     rw [hr] at hp;obtain ⟨i',d',A2,l2,c2,rfl,h1,h2⟩:=hp;have hq:=(zbA hjl (by omega) hr).2;have hq0:q.2≠0:=by omega
     have HX8:Hid (BX W.heap.size w8 (.slice A E.l.length ct) j z d (.slice A1 l1 c1) 0 0):=HX7.fd HD7.1.o h2;have HB8:Hid (bW w0 w8/\Fd W w8 (.slice B L.length n) (.slice none 0 0)):=⟨h1,HD7.2.trans h2⟩;have HV:Hid (R0=.inr q/\q.2≠0):=by
      refine ⟨?_,hq0⟩;rw [HR4.out,HGj.out,hr];rfl
     have HPu:Hid (∀W2,Cl 54 #[rdV (.slice A E.l.length ct) i' z d' (.slice A2 l2 c2) (plA E z q.1) q.2,T.ndG (nd0 8)] W2 (rB W2 (rdV (.slice A E.l.length ct) i' z d' (.slice A2 l2 c2) (plA E z q.1) q.2))):=fun W2=>zhe A E.l.length ct i' z d' A2 l2 c2 _ _ _ hq0 W2
     clear h1 h2 hq hq0 hr HX7 HD7 HGj HR4 HE HI;obtain ⟨k0,k1,k2,k3,k4,k5,k6⟩:=HX8.s.cl;obtain ⟨f0,f1,f2,f3,f4,f5,f6⟩:=HX8.s.fzs;go_wp2_with fail;refine (HPu _).mono ?_;rintro e w10 ⟨rfl,hb⟩;have HX10:Hid (BX W.heap.size w10 (.slice A E.l.length ct) i' z d' (.slice A2 l2 c2) (plA E z q.1) q.2):=(HX8.st (.slice A E.l.length ct) i' z d' (.slice A2 l2 c2) (plA E z q.1) q.2).later hb;have HB10:=(show Hid (bW w0 w10/\Fd W w10 (.slice B L.length n) (.slice none 0 0)) from by
      have b1:=zaq HB8.1 hw0 (.slice A E.l.length ct) (.int .i64 i') (.int .i64 z) (.int .i64 d') (.slice A2 l2 c2) (.int .i64 (plA E z q.1)) (.int .i64 q.2);exact ⟨b1.trans (hb.mono b1.size),(HB8.2.st7 (nL _) _ _ _ _ _ _ _).trans (Fd.below _ hb)⟩)
     clear hb HPu HX8 HB8 k0 k1 k2 k3 k4 k5 k6 f0 f1 f2 f3 f4 f5 f6;obtain ⟨k0,k1,k2,k3,k4,k5,k6⟩:=HX10.s.cl;obtain ⟨f0,f1,f2,f3,f4,f5,f6⟩:=HX10.s.fzs;go_wp2_with fail;go_roundw
     case rel=>exact ⟨_,_,_,_,_,_,_,HX10.st (.slice A E.l.length ct) i' z d' (.slice A2 l2 c2) (plA E z q.1) q.2,.inr ⟨q,rfl,rfl,HV.2,HV.1,zaq HB10.1 hw0 _ _ _ _ _ _ _,HB10.2.st7 (nL _) _ _ _ _ _ _ _⟩⟩
     case measure =>
      rw [HM.out];refine Nat.lt_of_le_of_lt (Nat.le_of_eq (mD_no (HX10.st (.slice A E.l.length ct) i' z d' (.slice A2 l2 c2) (plA E z q.1) q.2) HV.2)) ?_;omega
    | inl p =>
     obtain ⟨b,ns⟩:=p;rw [hr] at hp;obtain ⟨v',rfl,h1,h2⟩:=hp;have hadv:=zbN hjl (by omega) hr;have hlenN:=(zbW HE.rl hjl (by omega) hr).1 (by omega);obtain ⟨A2,c2,hv2⟩:=zaf h1.o;dsimp only at hv2 h1;obtain ⟨l2,hl2⟩:∃l,l=(L++M++ns).length:=⟨_,rfl⟩;rw [<-hl2] at hv2;subst hv2;have hjb:=hadv.2.2 (by omega);have hbl:=hadv.2.1;have hN:(L++M++ns++[nd0 8]).length<=10027010 * b:=by
      have e1:=HL1.2;have e2:=HJ.1;rw [lA,lA,List.length_singleton];omega
     have HX8:Hid (BX W.heap.size w8 (.slice A E.l.length ct) j z d (.slice A1 l1 c1) 0 0):=HX7.fd HD7.1.o h2;have HD8:Hid (DS E w0 w8 (.slice A E.l.length ct) b d (.slice A2 l2 c2) (L++M++ns)/\Fd W w8 (.slice B L.length n) (.slice A2 l2 c2)):=⟨h1,HD7.2.trans h2⟩;have HV:Hid (R0=ahd (M++ns++[nd0 8]) (gN E 1 b d)):=by
      show R0=_
      rw [HR4.out,HGj.out,hr]
      show ahd M (ahd (ns++[nd0 8]) _)=_
      rw [zcs,List.append_assoc]
     have HNn:Hid ((L++M++ns++[nd0 8]).length<=10027010 * b/\i<b/\b<=E.l.length/\a<b):=⟨hN,by have:=HJ.1;omega,hbl,by have:=HJ.1;omega⟩;have HPu:Hid (∀W2,DS E w0 W2 (.slice A E.l.length ct) b d (.slice A2 l2 c2) (L++M++ns)->Cl 54 #[rdV (.slice A E.l.length ct) b z d (.slice A2 l2 c2) 0 0,T.ndG (nd0 8)] W2 fun e W'=>∃v',e=.returned (rdV (.slice A E.l.length ct) b z d v' 0 0)/\DS E w0 W' (.slice A E.l.length ct) b d v' (L++M++ns++[nd0 8])/\Fd W2 W' (.slice A2 l2 c2) v'):=fun W2 h=>zhf h b z d 0 (nd0 8) (by show (8:Int)≠0;decide) (by rw [lA,List.length_singleton] at hN;omega)
     clear h1 h2 hr HX7 HD7 HGj HR4 HE HI hadv hlenN hl2 hjb hbl hN HJ HL1;obtain ⟨k0,k1,k2,k3,k4,k5,k6⟩:=HX8.s.cl;obtain ⟨f0,f1,f2,f3,f4,f5,f6⟩:=HX8.s.fzs;go_wp2_with fail;have hD9:=HD8.1.st7 hw0 HX8.s (.slice A E.l.length ct) (.int .i64 b) (.int .i64 z) (.int .i64 d) (.slice A2 l2 c2) (.int .i64 0) (.int .i64 0);refine (HPu _ hD9).mono ?_;rintro e w10 ⟨v3,rfl,h3,hf3⟩;obtain ⟨A3,c3,hv3⟩:=zaf h3.o;obtain ⟨l3,hl3⟩:∃l,l=(L++M++ns++[nd0 8]).length:=⟨_,rfl⟩;rw [<-hl3] at hv3;subst hv3;have HX10:Hid (BX W.heap.size w10 (.slice A E.l.length ct) b z d (.slice A2 l2 c2) 0 0):=(HX8.st (.slice A E.l.length ct) b z d (.slice A2 l2 c2) 0 0).fd hD9.o hf3;have HD10:Hid (DS E w0 w10 (.slice A E.l.length ct) b d (.slice A3 l3 c3) (L++M++ns++[nd0 8])/\Fd W w10 (.slice B L.length n) (.slice A3 l3 c3)/\l3=(L++M++ns++[nd0 8]).length):=⟨h3,(HD8.2.st7 (nL _) _ _ _ _ _ _ _).trans hf3,hl3⟩;clear hD9 h3 hf3 hl3 HPu HX8 HD8 k0 k1 k2 k3 k4 k5 k6 f0 f1 f2 f3 f4 f5 f6;obtain ⟨k0,k1,k2,k3,k4,k5,k6⟩:=HX10.s.cl;obtain ⟨f0,f1,f2,f3,f4,f5,f6⟩:=HX10.s.fzs;go_wp2_with fail;have eL:L++M++ns++[nd0 8]=L++(M++ns++[nd0 8]):=by simp
     go_roundw
     case rel=>exact ⟨_,_,_,_,_,_,_,HX10.st (.slice A E.l.length ct) b z d (.slice A3 l3 c3) 0 0,.inl ⟨b,M++ns++[nd0 8],rfl,rfl,rfl,rfl,by rw [<-eL];exact HD10.2.2,HNn.2.1,HNn.2.2.1,by rw [<-eL];exact HNn.1,by rw [<-eL];exact HD10.1.st7 hw0 HX10.s _ _ _ _ _ _ _,HD10.2.1.st7 (nL _) _ _ _ _ _ _ _,HV.out⟩⟩
     case measure =>
      rw [HM.out];have:=HNn.2.2;refine Nat.lt_of_le_of_lt (Nat.le_of_eq (zdU (HX10.st (.slice A E.l.length ct) b z d (.slice A3 l3 c3) 0 0))) ?_;omega
   ·have HV:Hid (R0=.inl (a,M)):=by
     show R0=_
     rw [HR4.out,HGa.out,iN hkk]
     show Sum.inl (a,M++[])=_
     rw [List.append_nil]
    have t1:(kdA E a==7)=false:=bF hkk;clear hkk HR4 HGa HS HE HI;obtain ⟨k0,k1,k2,k3,k4,k5,k6⟩:=HX6.s.cl;obtain ⟨f0,f1,f2,f3,f4,f5,f6⟩:=HX6.r.fzs;obtain ⟨m0,m1,m2,m3,m4,m5,m6⟩:=HX6.r.cl;go_wp2_with fail;refine zaV (s:=2) rfl rfl rfl (zaH HX6.r _ _ _ _ _ _ _) ?_
    show PoD _ _ _ _ _ _ _ _ R0 _ _
    rw [HV.out];exact ⟨_,rfl,HD6.1.st7 (by omega) HX6.r _ _ _ _ _ _ _,HD6.2.st7 (Nat.le_succ _) _ _ _ _ _ _ _⟩
  ·have HXe:=hO hX
   have HFe:Hid (bW w0 wr/\Fd W wr (.slice B L.length n) (.slice none 0 0)):=⟨hB,hF⟩;have HRe:=hO hR;have HOe:Hid (∀_:Unit,Cl 15 #[rdV (.slice A E.l.length ct) i3 z d3 (.slice A1 l1 c1) (plA E z q.1) q.2] wr (rB wr (.bool false))):=fun _=>by
    have:=HO i3 d3 A1 l1 c1 (plA E z q.1) q.2 wr;rw [show (q.2==0)=false from by simpa using hq] at this;exact this
   clear HW hX hR hB hF hq HO HS;obtain ⟨k0,k1,k2,k3,k4,k5,k6⟩:=HXe.s.cl;go_wp2_with fail;refine (HOe ()).mono ?_;rintro e w5 ⟨rfl,hb⟩;have HX5:=hO (HXe.later hb);have HF5:Hid (bW w0 w5/\Fd W w5 (.slice B L.length n) (.slice none 0 0)):=⟨HFe.1.trans (hb.mono HFe.1.size),HFe.2.trans (Fd.below _ hb)⟩;clear hb HOe HXe HFe k0 k1 k2 k3 k4 k5 k6;obtain ⟨k0,k1,k2,k3,k4,k5,k6⟩:=HX5.s.cl;obtain ⟨f0,f1,f2,f3,f4,f5,f6⟩:=HX5.r.fzs;obtain ⟨m0,m1,m2,m3,m4,m5,m6⟩:=HX5.r.cl;go_wp2_with fail;refine zaV (s:=2) rfl rfl rfl (zaH HX5.r _ _ _ _ _ _ _) ?_;exact HI.out R0 q HRe _ (zaq HF5.1 (by omega) _ _ _ _ _ _ _) (HF5.2.st7 (Nat.le_succ _) _ _ _ _ _ _ _) _ _ _ _ _
theorem zhW {E:PE} (hE:OkE E) {z:Nat} {w0:World} {tv:Value} {i d:Nat} (HS0:∀a,i<=a->a<=E.l.length->Cd 73 E z w0 tv a d (gN E 4 a d)):Cd 53 E z w0 tv i d (gN E 2 i d):=by
 intro W v L h hL;have hi:=h.hi;have hlen:=hE.len;have hz:=hE.z;have HE:=hO hE;have HS:Hid (∀a,i<=a->a<=E.l.length->Cd 73 E z w0 tv a d (gN E 4 a d)):=HS0;have HG:=hO (g2 E i d hi);obtain ⟨B,n,hv⟩:=zaf h.o;subst hv;have HX:=BX.new W tv i z d (.slice B L.length n) 0 0;have HBX:=hO HX.1;have HD:Hid (DS E w0 ((W.alloc (rdO tv i z d (.slice B L.length n) 0 0)).alloc rdZ) tv i d (.slice B L.length n) L):=h.later HX.2;have HF:Hid (Fd W ((W.alloc (rdO tv i z d (.slice B L.length n) 0 0)).alloc rdZ) (.slice B L.length n) (.slice B L.length n)):=Fd.below _ HX.2;have HC:Hid (∀W,DS E w0 W tv i d (.slice B L.length n) L->Cl 73 #[rdV tv i z d (.slice B L.length n) 0 0] W fun e W'=>PoD E z w0 tv d W (.slice B L.length n) L (gN E 4 i d) e W'):=fun W h=>HS0 i (nL _) hi W _ L h hL
 have hw0:=h.bl.size;obtain ⟨A,ct,htv,_⟩:=h.tk;subst htv;have HO:Hid (∀(i d:Int) (A1:Option Addr) (l1 c1:Nat) (p q:Int) W,Cl 15 #[rdV (.slice A E.l.length ct) i z d (.slice A1 l1 c1) p q] W (rB W (.bool (q==0)))):=fun i d A1 l1 c1 p q W=>zaP A E.l.length ct i z d A1 l1 c1 p q W
 have HI:Hid (∀R0:PR,∀q,R0=.inr q->∀W',bW w0 W'->Fd W W' (.slice B L.length n) (.slice none 0 0)->∀(i' d':Int) (A1:Option Addr) (l1 c1:Nat),PoD E z w0 (.slice A E.l.length ct) d W (.slice B L.length n) L R0 (.returned (rdV (.slice A E.l.length ct) i' z d' (.slice A1 l1 c1) (plA E z q.1) q.2)) W'):=fun R0 q hq W' h1 h2 i' d' A1 l1 c1=>by rw [hq];exact ⟨i',d',A1,l1,c1,rfl,h1,h2⟩
 generalize hR0:gN E 2 i d=R0 at *;clear h hE HS0 HX hR0;go_enter Tryz.func53,Tryz.ntmps53;go_wp2_with fail;generalize (W.alloc (rdO (.slice A E.l.length ct) i z d (.slice B L.length n) 0 0)).alloc rdZ=w1 at *;have HX2:=HBX;have HD2:=HD;have HF2:=HF;clear HBX HD HF;refine (HC _ HD2.out).mono ?_;intro e w3 hp;have HIv:Hid (∃(i3 d3:Int) (A1:Option Addr) (l1 c1:Nat) (p3 q3:Int),e=.returned (rdV (.slice A E.l.length ct) i3 z d3 (.slice A1 l1 c1) p3 q3)/\BX W.heap.size w3 (.slice A E.l.length ct) i z d (.slice B L.length n) 0 0/\SvD E z w0 (.slice A E.l.length ct) i d W (.slice B L.length n) L 3 R0 w3 i3 d3 (.slice A1 l1 c1) l1 p3 q3):=by
  show _
  cases hr:gN E 4 i d with
  | inr q =>
   rw [hr] at hp;obtain ⟨i',d',A1,l1,c1,rfl,h1,h2⟩:=hp;have hV:R0=.inr q:=by rw [HG.out,hr];rfl
   have hq:=(zbA hi (by omega) hr).2;exact ⟨i',d',A1,l1,c1,_,_,rfl,HX2.fd HD2.o h2,.inr ⟨q,rfl,rfl,by omega,hV,h1,HF2.trans h2⟩⟩
  | inl p =>
   obtain ⟨a,ns⟩:=p;rw [hr] at hp;obtain ⟨v',rfl,h1,h2⟩:=hp;have hadv:=zbN hi (by omega) hr;have hlenN:=(zbW HE.rl hi (by omega) hr).1 (by omega);obtain ⟨A1,c1,hv1⟩:=zaf h1.o;dsimp only at hv1 h1;subst hv1;exact ⟨_,_,A1,_,c1,_,_,rfl,HX2.fd HD2.o h2,.inl ⟨a,ns,rfl,rfl,rfl,rfl,rfl,hadv.2.2 (by omega),hadv.2.1,by rw [lA];omega,h1,HF2.trans h2,by rw [HG.out,hr];rfl⟩⟩
 clear hp HC HX2 HD2 HF2 HG;obtain ⟨i3,d3,A1,l1,c1,p3,q3,rfl,hX3,hS3⟩:=HIv.out;clear HIv;have HX3:=hO hX3;have HS3:=hO hS3;clear hX3 hS3;obtain ⟨k0,k1,k2,k3,k4,k5,k6⟩:=HX3.s.cl;obtain ⟨f0,f1,f2,f3,f4,f5,f6⟩:=HX3.s.fzs;go_wp2_with fail;have HIn:Hid (BX W.heap.size (st7 w3 W.heap.size (.slice A E.l.length ct) (.int .i64 i3) (.int .i64 z) (.int .i64 d3) (.slice A1 l1 c1) (.int .i64 p3) (.int .i64 q3)) (.slice A E.l.length ct) i3 z d3 (.slice A1 l1 c1) p3 q3/\SvD E z w0 (.slice A E.l.length ct) i d W (.slice B L.length n) L 3 R0 (st7 w3 W.heap.size (.slice A E.l.length ct) (.int .i64 i3) (.int .i64 z) (.int .i64 d3) (.slice A1 l1 c1) (.int .i64 p3) (.int .i64 q3)) i3 d3 (.slice A1 l1 c1) l1 p3 q3):=by
  refine ⟨HX3.st _ _ _ _ _ _ _,?_⟩
  rcases HS3.out with ⟨a,M,e1,e2,e3,e4,e5,e6,e7,e8,e9,e10,e11⟩ | ⟨q,e1,e2,e3,e4,e5,e6⟩
  ·exact .inl ⟨a,M,e1,e2,e3,e4,e5,e6,e7,e8,e9.st7 hw0 HX3.s _ _ _ _ _ _ _,e10.st7 (nL _) _ _ _ _ _ _ _,e11⟩
  ·exact .inr ⟨q,e1,e2,e3,e4,zaq e5 hw0 _ _ _ _ _ _ _,e6.st7 (nL _) _ _ _ _ _ _ _⟩
 clear HX3 HS3 k0 k1 k2 k3 k4 k5 k6 f0 f1 f2 f3 f4 f5 f6;go_loopw [5] (fun _ wr=>∃(i3 d3:Int) (A1:Option Addr) (l1 c1:Nat) (p3 q3:Int),Hid (BX W.heap.size wr (.slice A E.l.length ct) i3 z d3 (.slice A1 l1 c1) p3 q3/\SvD E z w0 (.slice A E.l.length ct) i d W (.slice B L.length n) L 3 R0 wr i3 d3 (.slice A1 l1 c1) l1 p3 q3)) (fun _ wr=>mD W.heap.size E.l.length wr)
 case atStart=>exact ⟨_,_,_,_,_,_,_,HIn⟩
 case round =>
  obtain ⟨i3,d3,A1,l1,c1,p3,q3,HW⟩:=hrel;clear HIn
  rcases HW.out with ⟨hX,⟨a,M,rfl,rfl,rfl,rfl,hl1,ha1,ha2,hlm,hD,hF,hR⟩ | ⟨q,rfl,rfl,hq,hR,hB,hF⟩⟩
  ·have HX4:=hO hX
   have HD4:Hid (DS E w0 wr (.slice A E.l.length ct) a d (.slice A1 l1 c1) (L++M)/\Fd W wr (.slice B L.length n) (.slice A1 l1 c1)):=⟨hD,hF⟩;have HM:Hid (mD W.heap.size E.l.length wr=E.l.length+1 - a):=zdU hX;have HR4:Hid (R0=ahd M (gN E 3 a d)):=hR;have HGa:=hO (g3 E a d ha2);have HOk:Hid (∀_:Unit,Cl 15 #[rdV (.slice A E.l.length ct) a z d (.slice A1 l1 c1) 0 0] wr (rB wr (.bool true))):=fun _=>HO a d A1 l1 c1 0 0 wr
   have HCo:Hid (∀W2,DS E w0 W2 (.slice A E.l.length ct) a d (.slice A1 l1 c1) (L++M)->Cl 74 #[rdV (.slice A E.l.length ct) a z d (.slice A1 l1 c1) 0 0] W2 (rB W2 (.bool (bgn E a)))):=fun W2 h=>zcz h z d 0 hz
   have HL1:Hid (l1=(L++M).length/\(L++M).length<=10027010 * a):=⟨hl1,hlm⟩;clear HW hX hD hF hR HO hl1 hlm;obtain ⟨k0,k1,k2,k3,k4,k5,k6⟩:=HX4.s.cl;go_wp2_with fail;refine (HOk ()).mono ?_;rintro e w5 ⟨rfl,hb⟩;have HX5:=hO (HX4.later hb);have HD5:Hid (DS E w0 w5 (.slice A E.l.length ct) a d (.slice A1 l1 c1) (L++M)/\Fd W w5 (.slice B L.length n) (.slice A1 l1 c1)):=⟨HD4.1.later hb,HD4.2.trans (Fd.below _ hb)⟩;clear hb HOk HX4 HD4 k0 k1 k2 k3 k4 k5 k6;obtain ⟨k0,k1,k2,k3,k4,k5,k6⟩:=HX5.s.cl;go_wp2_with fail;refine (HCo _ HD5.1).mono ?_;rintro e w6 ⟨rfl,hb⟩;have HX6:=hO (HX5.later hb);have HD6:Hid (DS E w0 w6 (.slice A E.l.length ct) a d (.slice A1 l1 c1) (L++M)/\Fd W w6 (.slice B L.length n) (.slice A1 l1 c1)):=⟨HD5.1.later hb,HD5.2.trans (Fd.below _ hb)⟩;clear hb HCo HX5 HD5 k0 k1 k2 k3 k4 k5 k6;by_cases hkk:bgn E a=true
   ·have hlt:a<E.l.length:=zc6 hkk
    have t1:bgn E a=true:=hkk;obtain ⟨j,hj⟩:∃j,j=a:=⟨_,rfl⟩;have u1:IntKind.i64.wrap ((a:Int)+1)=((a+1:Nat):Int):=by rw [wI];omega
    clear u1;have hjl:j<=E.l.length:=by omega
    have HJ:Hid (a<=j/\j<=a+1):=⟨by omega,by omega⟩;have HSa:Hid (∀W2,DS E w0 W2 (.slice A E.l.length ct) j d (.slice A1 l1 c1) (L++M)->Cl 73 #[rdV (.slice A E.l.length ct) j z d (.slice A1 l1 c1) 0 0] W2 fun e W'=>PoD E z w0 (.slice A E.l.length ct) d W2 (.slice A1 l1 c1) (L++M) (gN E 4 j d) e W'):=fun W2 h=>HS j (by omega) hjl W2 _ _ h (Nat.le_trans HL1.2 (Nat.mul_le_mul_left _ HJ.1))
    have HX7:Hid (BX W.heap.size w6 (.slice A E.l.length ct) j z d (.slice A1 l1 c1) 0 0):=by rw [hj];exact HX6.out
    have HD7:Hid (DS E w0 w6 (.slice A E.l.length ct) j d (.slice A1 l1 c1) (L++M)/\Fd W w6 (.slice B L.length n) (.slice A1 l1 c1)):=by rw [hj];exact HD6.out
    have HGj:Hid (gN E 3 a d=bnd (gN E 4 j d) fun b ns=>ahd (ns++[nd0 7]) (gN E 3 b d)):=by
     show gN E 3 a d=_
     rw [HGa.out,iP hkk,hj]
    obtain ⟨k0,k1,k2,k3,k4,k5,k6⟩:=HX7.s.cl;have g1:=HX7.s.fz 1;clear HGa hkk hj HD6 HS;go_wp2_with fail;refine (HSa _ HD7.1).mono ?_;intro e w8 hp;clear k0 k1 k2 k3 k4 k5 k6 g1 HSa HX6
    cases hr:gN E 4 j d with
    | inr q =>
     rw [hr] at hp;obtain ⟨i',d',A2,l2,c2,rfl,h1,h2⟩:=hp;have hq:=(zbA hjl (by omega) hr).2;have hq0:q.2≠0:=by omega
     have HX8:Hid (BX W.heap.size w8 (.slice A E.l.length ct) j z d (.slice A1 l1 c1) 0 0):=HX7.fd HD7.1.o h2;have HB8:Hid (bW w0 w8/\Fd W w8 (.slice B L.length n) (.slice none 0 0)):=⟨h1,HD7.2.trans h2⟩;have HV:Hid (R0=.inr q/\q.2≠0):=by
      refine ⟨?_,hq0⟩;rw [HR4.out,HGj.out,hr];rfl
     have HPu:Hid (∀W2,Cl 54 #[rdV (.slice A E.l.length ct) i' z d' (.slice A2 l2 c2) (plA E z q.1) q.2,T.ndG (nd0 7)] W2 (rB W2 (rdV (.slice A E.l.length ct) i' z d' (.slice A2 l2 c2) (plA E z q.1) q.2))):=fun W2=>zhe A E.l.length ct i' z d' A2 l2 c2 _ _ _ hq0 W2
     clear h1 h2 hq hq0 hr HX7 HD7 HGj HR4 HE HI;obtain ⟨k0,k1,k2,k3,k4,k5,k6⟩:=HX8.s.cl;obtain ⟨f0,f1,f2,f3,f4,f5,f6⟩:=HX8.s.fzs;go_wp2_with fail;refine (HPu _).mono ?_;rintro e w10 ⟨rfl,hb⟩;have HX10:Hid (BX W.heap.size w10 (.slice A E.l.length ct) i' z d' (.slice A2 l2 c2) (plA E z q.1) q.2):=(HX8.st (.slice A E.l.length ct) i' z d' (.slice A2 l2 c2) (plA E z q.1) q.2).later hb;have HB10:=(show Hid (bW w0 w10/\Fd W w10 (.slice B L.length n) (.slice none 0 0)) from by
      have b1:=zaq HB8.1 hw0 (.slice A E.l.length ct) (.int .i64 i') (.int .i64 z) (.int .i64 d') (.slice A2 l2 c2) (.int .i64 (plA E z q.1)) (.int .i64 q.2);exact ⟨b1.trans (hb.mono b1.size),(HB8.2.st7 (nL _) _ _ _ _ _ _ _).trans (Fd.below _ hb)⟩)
     clear hb HPu HX8 HB8 k0 k1 k2 k3 k4 k5 k6 f0 f1 f2 f3 f4 f5 f6;obtain ⟨k0,k1,k2,k3,k4,k5,k6⟩:=HX10.s.cl;obtain ⟨f0,f1,f2,f3,f4,f5,f6⟩:=HX10.s.fzs;go_wp2_with fail;go_roundw
     case rel=>exact ⟨_,_,_,_,_,_,_,HX10.st (.slice A E.l.length ct) i' z d' (.slice A2 l2 c2) (plA E z q.1) q.2,.inr ⟨q,rfl,rfl,HV.2,HV.1,zaq HB10.1 hw0 _ _ _ _ _ _ _,HB10.2.st7 (nL _) _ _ _ _ _ _ _⟩⟩
     case measure =>
      rw [HM.out];refine Nat.lt_of_le_of_lt (Nat.le_of_eq (mD_no (HX10.st (.slice A E.l.length ct) i' z d' (.slice A2 l2 c2) (plA E z q.1) q.2) HV.2)) ?_;omega
    | inl p =>
     obtain ⟨b,ns⟩:=p;rw [hr] at hp;obtain ⟨v',rfl,h1,h2⟩:=hp;have hadv:=zbN hjl (by omega) hr;have hlenN:=(zbW HE.rl hjl (by omega) hr).1 (by omega);obtain ⟨A2,c2,hv2⟩:=zaf h1.o;dsimp only at hv2 h1;obtain ⟨l2,hl2⟩:∃l,l=(L++M++ns).length:=⟨_,rfl⟩;rw [<-hl2] at hv2;subst hv2;have hjb:=hadv.2.2 (by omega);have hbl:=hadv.2.1;have hN:(L++M++ns++[nd0 7]).length<=10027010 * b:=by
      have e1:=HL1.2;have e2:=HJ.1;rw [lA,lA,List.length_singleton];omega
     have HX8:Hid (BX W.heap.size w8 (.slice A E.l.length ct) j z d (.slice A1 l1 c1) 0 0):=HX7.fd HD7.1.o h2;have HD8:Hid (DS E w0 w8 (.slice A E.l.length ct) b d (.slice A2 l2 c2) (L++M++ns)/\Fd W w8 (.slice B L.length n) (.slice A2 l2 c2)):=⟨h1,HD7.2.trans h2⟩;have HV:Hid (R0=ahd (M++ns++[nd0 7]) (gN E 3 b d)):=by
      show R0=_
      rw [HR4.out,HGj.out,hr]
      show ahd M (ahd (ns++[nd0 7]) _)=_
      rw [zcs,List.append_assoc]
     have HNn:Hid ((L++M++ns++[nd0 7]).length<=10027010 * b/\i<b/\b<=E.l.length/\a<b):=⟨hN,by have:=HJ.1;omega,hbl,by have:=HJ.1;omega⟩;have HPu:Hid (∀W2,DS E w0 W2 (.slice A E.l.length ct) b d (.slice A2 l2 c2) (L++M++ns)->Cl 54 #[rdV (.slice A E.l.length ct) b z d (.slice A2 l2 c2) 0 0,T.ndG (nd0 7)] W2 fun e W'=>∃v',e=.returned (rdV (.slice A E.l.length ct) b z d v' 0 0)/\DS E w0 W' (.slice A E.l.length ct) b d v' (L++M++ns++[nd0 7])/\Fd W2 W' (.slice A2 l2 c2) v'):=fun W2 h=>zhf h b z d 0 (nd0 7) (by show (7:Int)≠0;decide) (by rw [lA,List.length_singleton] at hN;omega)
     clear h1 h2 hr HX7 HD7 HGj HR4 HE HI hadv hlenN hl2 hjb hbl hN HJ HL1;obtain ⟨k0,k1,k2,k3,k4,k5,k6⟩:=HX8.s.cl;obtain ⟨f0,f1,f2,f3,f4,f5,f6⟩:=HX8.s.fzs;go_wp2_with fail;have hD9:=HD8.1.st7 hw0 HX8.s (.slice A E.l.length ct) (.int .i64 b) (.int .i64 z) (.int .i64 d) (.slice A2 l2 c2) (.int .i64 0) (.int .i64 0);refine (HPu _ hD9).mono ?_;rintro e w10 ⟨v3,rfl,h3,hf3⟩;obtain ⟨A3,c3,hv3⟩:=zaf h3.o;obtain ⟨l3,hl3⟩:∃l,l=(L++M++ns++[nd0 7]).length:=⟨_,rfl⟩;rw [<-hl3] at hv3;subst hv3;have HX10:Hid (BX W.heap.size w10 (.slice A E.l.length ct) b z d (.slice A2 l2 c2) 0 0):=(HX8.st (.slice A E.l.length ct) b z d (.slice A2 l2 c2) 0 0).fd hD9.o hf3;have HD10:Hid (DS E w0 w10 (.slice A E.l.length ct) b d (.slice A3 l3 c3) (L++M++ns++[nd0 7])/\Fd W w10 (.slice B L.length n) (.slice A3 l3 c3)/\l3=(L++M++ns++[nd0 7]).length):=⟨h3,(HD8.2.st7 (nL _) _ _ _ _ _ _ _).trans hf3,hl3⟩;clear hD9 h3 hf3 hl3 HPu HX8 HD8 k0 k1 k2 k3 k4 k5 k6 f0 f1 f2 f3 f4 f5 f6;obtain ⟨k0,k1,k2,k3,k4,k5,k6⟩:=HX10.s.cl;obtain ⟨f0,f1,f2,f3,f4,f5,f6⟩:=HX10.s.fzs;go_wp2_with fail;have eL:L++M++ns++[nd0 7]=L++(M++ns++[nd0 7]):=by simp
     go_roundw
     case rel=>exact ⟨_,_,_,_,_,_,_,HX10.st (.slice A E.l.length ct) b z d (.slice A3 l3 c3) 0 0,.inl ⟨b,M++ns++[nd0 7],rfl,rfl,rfl,rfl,by rw [<-eL];exact HD10.2.2,HNn.2.1,HNn.2.2.1,by rw [<-eL];exact HNn.1,by rw [<-eL];exact HD10.1.st7 hw0 HX10.s _ _ _ _ _ _ _,HD10.2.1.st7 (nL _) _ _ _ _ _ _ _,HV.out⟩⟩
     case measure =>
      rw [HM.out];have:=HNn.2.2;refine Nat.lt_of_le_of_lt (Nat.le_of_eq (zdU (HX10.st (.slice A E.l.length ct) b z d (.slice A3 l3 c3) 0 0))) ?_;omega
   ·have HV:Hid (R0=.inl (a,M)):=by
     show R0=_
     rw [HR4.out,HGa.out,iN hkk]
     show Sum.inl (a,M++[])=_
     rw [List.append_nil]
    have t1:bgn E a=false:=Bool.eq_false_iff.2 hkk;clear hkk HR4 HGa HS HE HI;obtain ⟨k0,k1,k2,k3,k4,k5,k6⟩:=HX6.s.cl;obtain ⟨f0,f1,f2,f3,f4,f5,f6⟩:=HX6.r.fzs;obtain ⟨m0,m1,m2,m3,m4,m5,m6⟩:=HX6.r.cl;go_wp2_with fail;refine zaV (s:=2) rfl rfl rfl (zaH HX6.r _ _ _ _ _ _ _) ?_
    show PoD _ _ _ _ _ _ _ _ R0 _ _
    rw [HV.out];exact ⟨_,rfl,HD6.1.st7 (by omega) HX6.r _ _ _ _ _ _ _,HD6.2.st7 (Nat.le_succ _) _ _ _ _ _ _ _⟩
  ·have HXe:=hO hX
   have HFe:Hid (bW w0 wr/\Fd W wr (.slice B L.length n) (.slice none 0 0)):=⟨hB,hF⟩;have HRe:=hO hR;have HOe:Hid (∀_:Unit,Cl 15 #[rdV (.slice A E.l.length ct) i3 z d3 (.slice A1 l1 c1) (plA E z q.1) q.2] wr (rB wr (.bool false))):=fun _=>by
    have:=HO i3 d3 A1 l1 c1 (plA E z q.1) q.2 wr;rw [show (q.2==0)=false from by simpa using hq] at this;exact this
   clear HW hX hR hB hF hq HO HS;obtain ⟨k0,k1,k2,k3,k4,k5,k6⟩:=HXe.s.cl;go_wp2_with fail;refine (HOe ()).mono ?_;rintro e w5 ⟨rfl,hb⟩;have HX5:=hO (HXe.later hb);have HF5:Hid (bW w0 w5/\Fd W w5 (.slice B L.length n) (.slice none 0 0)):=⟨HFe.1.trans (hb.mono HFe.1.size),HFe.2.trans (Fd.below _ hb)⟩;clear hb HOe HXe HFe k0 k1 k2 k3 k4 k5 k6;obtain ⟨k0,k1,k2,k3,k4,k5,k6⟩:=HX5.s.cl;obtain ⟨f0,f1,f2,f3,f4,f5,f6⟩:=HX5.r.fzs;obtain ⟨m0,m1,m2,m3,m4,m5,m6⟩:=HX5.r.cl;go_wp2_with fail;refine zaV (s:=2) rfl rfl rfl (zaH HX5.r _ _ _ _ _ _ _) ?_;exact HI.out R0 q HRe _ (zaq HF5.1 (by omega) _ _ _ _ _ _ _) (HF5.2.st7 (Nat.le_succ _) _ _ _ _ _ _ _) _ _ _ _ _
abbrev St:=Sum (Nat×Nat×List Nd) (Nat×Int)
def ow (st:St) (v:Value):Value:=match st with
 | .inl _=>v
 | .inr _=>.slice none 0 0
def Rv (E:PE) (z:Nat) (w0:World) (tv:Value) (W:World) (st:St) (i d:Int) (A:Option Addr) (l c:Nat) (p q:Int):Prop:=match st with
 | .inl s=>q=0/\p=0/\i=s.1/\d=s.2.1/\l=s.2.2.length/\DS E w0 W tv s.1 s.2.1 (.slice A l c) s.2.2
 | .inr e=>q=e.2/\p=plA E z e.1/\e.2≠0/\bW w0 W
def Pu (E:PE) (z:Nat) (w0:World) (tv:Value) (W:World) (v:Value) (st st2:St) (e:Ending) (W':World):Prop :=
 ∃(i d:Int) (A:Option Addr) (l c:Nat) (p q:Int),e=.returned (rdV tv i z d (.slice A l c) p q)/\Rv E z w0 tv W' st2 i d A l c p q/\Fd W W' (ow st v) (ow st2 (.slice A l c))
def stR (d:Nat) (L:List Nd) (r:PR):St:=match r with
 | .inl p=>.inl (p.1,d,L++p.2)
 | .inr q=>.inr q
section
variable {E:PE} {z:Nat} {w0 W W':World} {tv:Value} {i d:Nat} {v:Value} {L:List Nd}
theorem PoD.u {r:PR} {e:Ending} (h:PoD E z w0 tv d W v L r e W') (hq:∀q,r=.inr q->q.2≠0):Pu E z w0 tv W v (.inl (i,d,L)) (stR d L r) e W':=by
 cases r with
 | inl p =>
  obtain ⟨v',rfl,h1,h2⟩:=h;obtain ⟨A,c,hv⟩:=zaf h1.o;subst hv;exact ⟨_,_,A,_,c,_,_,rfl,⟨rfl,rfl,rfl,rfl,rfl,h1⟩,h2⟩
 | inr q =>
  obtain ⟨i',d',A,n,c,rfl,h1,h2⟩:=h;exact ⟨_,_,A,n,c,_,_,rfl,⟨rfl,rfl,hq _ rfl,h1⟩,h2⟩
theorem Pu.pod {s:Nat×Nat×List Nd} {r:PR} {e:Ending} (h:Pu E z w0 tv W v (.inl s) (stR d L r) e W'):PoD E z w0 tv d W v L r e W':=by
 obtain ⟨i',d',A,n,c,p,q,rfl,hr,hf⟩:=h
 cases r with
 | inl s2 =>
  obtain ⟨rfl,rfl,rfl,rfl,rfl,hd⟩:=hr;exact ⟨_,rfl,hd,hf⟩
 | inr q2 =>
  obtain ⟨rfl,rfl,_,hb⟩:=hr;exact ⟨_,_,A,n,c,rfl,hb,hf⟩
end
structure WS (E:PE) (z:Nat) (w0:World) (tv:Value) (W:World) (nb:Nat) (v0:Value) (Wc:World) (st:St) (i d:Int) (A:Option Addr) (l c:Nat) (p q:Int):Prop where
 rv:Rv E z w0 tv Wc st i d A l c p q
 fd:Fd W Wc v0 (ow st (.slice A l c))
 ap:∀k,(ow st (.slice A l c)).ownBlock=some k->k<W.heap.size∨W.heap.size+nb<=k
 tk:∀k,tv.ownBlock=some k->k<W.heap.size
 sz:W.heap.size+nb<=Wc.heap.size
 lo:w0.heap.size<=W.heap.size
theorem Rv.moved {E:PE} {z:Nat} {w0 W W':World} {tv:Value} {st:St} {i d:Int} {A:Option Addr} {l c:Nat} {p q:Int} (h:Rv E z w0 tv W st i d A l c p q) (hb:bW w0 W->bW w0 W') (ht:∀k,tv.ownBlock=some k->W'.heap[k]?=W.heap[k]?) (ho:∀k,(ow st (.slice A l c)).ownBlock=some k->W'.heap[k]?=W.heap[k]?):Rv E z w0 tv W' st i d A l c p q:=by
 cases st with
 | inl s =>
  obtain ⟨e1,e2,e3,e4,e5,hd⟩:=h;exact ⟨e1,e2,e3,e4,e5,hb hd.bl,zaj hd.t ht,zaj hd.o ho,hd.hi,hd.hd⟩
 | inr e=>exact ⟨h.1,h.2.1,h.2.2.1,hb h.2.2.2⟩
theorem Rv.later {E:PE} {z:Nat} {w0 W W':World} {tv:Value} {st:St} {i d:Int} {A:Option Addr} {l c:Nat} {p q:Int} (h:Rv E z w0 tv W st i d A l c p q) (hb:bW W W'):Rv E z w0 tv W' st i d A l c p q:=by
 cases st with
 | inl s =>
  obtain ⟨e1,e2,e3,e4,e5,hd⟩:=h;exact ⟨e1,e2,e3,e4,e5,hd.later hb⟩
 | inr e=>exact ⟨h.1,h.2.1,h.2.2.1,h.2.2.2.trans (hb.mono h.2.2.2.size)⟩
section
variable {E:PE} {z:Nat} {w0 W:World} {tv:Value} {nb:Nat} {v0:Value} {Wc W':World} {st st2:St} {i d:Int} {A:Option Addr} {l c:Nat} {p q:Int} {i2 d2:Int} {A2:Option Addr} {l2 c2:Nat} {p2 q2:Int}
theorem WS.new {a b:Nat} {L:List Nd} (h:DS E w0 W tv a b (.slice A L.length c) L) (hb:bW W Wc) (hs:W.heap.size+nb<=Wc.heap.size):WS E z w0 tv W nb (.slice A L.length c) Wc (.inl (a,b,L)) a b A L.length c 0 0 :=
 ⟨⟨rfl,rfl,rfl,rfl,rfl,h.later hb⟩,Fd.below _ hb,fun k e=>.inl (h.o.lt k e).2,fun k e=>(h.t.lt k e).2,hs,h.bl.size⟩
theorem WS.call (h:WS E z w0 tv W nb v0 Wc st i d A l c p q) (hr:Rv E z w0 tv W' st2 i2 d2 A2 l2 c2 p2 q2) (hf:Fd Wc W' (ow st (.slice A l c)) (ow st2 (.slice A2 l2 c2))):WS E z w0 tv W nb v0 W' st2 i2 d2 A2 l2 c2 p2 q2 :=
 ⟨hr,h.fd.trans hf,fun k e=>by
  rcases hf.own k e with r | r
  ·exact h.ap k r
  ·exact .inr (Nat.le_trans h.sz r),h.tk,Nat.le_trans h.sz hf.size,h.lo⟩
theorem WS.keep (h:WS E z w0 tv W nb v0 Wc st i d A l c p q) {u:Value} (hf:Fd Wc W' (ow st (.slice A l c)) u) (k:Nat) (h1:W.heap.size<=k) (h2:k<W.heap.size+nb):W'.heap[k]?=Wc.heap[k]? :=
 hf.block k (nM h2 h.sz) fun e=>by
  rcases h.ap k e with r | r <;> omega
theorem WS.later (h:WS E z w0 tv W nb v0 Wc st i d A l c p q) (hb:bW Wc W'):WS E z w0 tv W nb v0 W' st i d A l c p q:=h.call (h.rv.later hb) (Fd.below _ hb)
theorem WS.moved (h:WS E z w0 tv W nb v0 Wc st i d A l c p q) {k:Nat} (h1:W.heap.size<=k) (h2:k<W.heap.size+nb) (hb:bW w0 Wc->bW w0 W') (hs:Wc.heap.size<=W'.heap.size) (hx:∀j,j≠k->W'.heap[j]?=Wc.heap[j]?):WS E z w0 tv W nb v0 W' st i d A l c p q :=
 ⟨h.rv.moved hb (fun j e=>hx j (by have:=h.tk j e;omega)) (fun j e=>hx j (by rcases h.ap j e with r | r <;> omega)),⟨Nat.le_trans h.fd.size hs,fun j hj e=>(hx j (by omega)).trans (h.fd.block j hj e),h.fd.own⟩,h.ap,h.tk,Nat.le_trans h.sz hs,h.lo⟩
theorem WS.set (h:WS E z w0 tv W nb v0 Wc st i d A l c p q) {k:Nat} (h1:W.heap.size<=k) (h2:k<W.heap.size+nb) (j:Nat) (u:Value):WS E z w0 tv W nb v0 (Wc.setCell ⟨k,j,none⟩ u) st i d A l c p q :=
 h.moved h1 h2 (fun hb=>hb.setCell (p:=⟨k,j,none⟩) (Nat.le_trans h.lo h1) _) (by simp [World.setCell]) fun _ hj=>bS _ _ _ _ hj
theorem WS.st7 (h:WS E z w0 tv W nb v0 Wc st i d A l c p q) {k:Nat} (h1:W.heap.size<=k) (h2:k<W.heap.size+nb) (a0 a1 a2 a3 a4 a5 a6:Value):WS E z w0 tv W nb v0 (st7 Wc k a0 a1 a2 a3 a4 a5 a6) st i d A l c p q :=
 h.moved h1 h2 (fun hb=>zaq hb (Nat.le_trans h.lo h1) _ _ _ _ _ _ _) (by rw [zem];exact nL _) fun _ hj=>zaw _ _ _ _ _ _ _ hj
def upS (st:St):St:=match st with
 | .inl s=>.inl (s.1+1,s.2)
 | .inr e=>.inr e
def dnS (st:St):St:=match st with
 | .inl s=>.inl (s.1,s.2.1 - 1,s.2.2)
 | .inr e=>.inr e
theorem WS.up (h:WS E z w0 tv W nb v0 Wc st i d A l c p q) (hi:∀s,st=.inl s->s.1<E.l.length) (hz:E.l.length<=1000000):WS E z w0 tv W nb v0 Wc (upS st) (IntKind.i64.wrap (i+1)) d A l c p q:=by
 cases st with
 | inr e=>exact ⟨h.rv,h.fd,h.ap,h.tk,h.sz,h.lo⟩
 | inl s =>
  obtain ⟨e1,e2,rfl,e4,e5,hd⟩:=h.rv;have:=hi _ rfl;exact ⟨⟨e1,e2,by rw [wI];show _=((s.1+1:Nat):Int);omega,e4,e5,hd.at this⟩,h.fd,h.ap,h.tk,h.sz,h.lo⟩
theorem WS.dn (h:WS E z w0 tv W nb v0 Wc st i d A l c p q) (hi:∀s,st=.inl s->0<s.2.1):WS E z w0 tv W nb v0 Wc (dnS st) i (IntKind.i64.wrap (d - 1)) A l c p q:=by
 cases st with
 | inr e=>exact ⟨h.rv,h.fd,h.ap,h.tk,h.sz,h.lo⟩
 | inl s =>
  obtain ⟨e1,e2,e3,rfl,e5,hd⟩:=h.rv;have h0:=hi _ rfl;have h1:=hd.hd;exact ⟨⟨e1,e2,e3,by rw [wI];show _=((s.2.1 - 1:Nat):Int);omega,e5,hd.dp (show s.2.1 - 1<=240 by omega)⟩,h.fd,h.ap,h.tk,h.sz,h.lo⟩
theorem WS.bl (h:WS E z w0 tv W nb v0 Wc st i d A l c p q):bW w0 Wc:=by
 have h1:=h.rv
 cases st with
 | inl s=>exact h1.2.2.2.2.2.bl
 | inr e=>exact h1.2.2.2
theorem WS.pu (h:WS E z w0 tv W nb v0 Wc st i d A l c p q) (s:Nat×Nat×List Nd):Pu E z w0 tv W v0 (.inl s) st (.returned (rdV tv i z d (.slice A l c) p q)) Wc:=⟨_,_,_,_,_,_,_,rfl,h.rv,h.fd⟩
end
def zgr (n:Nd) (st:St):St:=match st with
 | .inl s=>.inl (s.1,s.2.1,s.2.2++(if n.op=0 then [] else [n]))
 | .inr e=>.inr e
def tkS (E:PE) (k:Int) (st:St):St:=match st with
 | .inl s=>if kdA E s.1=k then .inl (s.1+1,s.2) else .inr (s.1,60)
 | .inr e=>.inr e
def opS (st:St):St:=match st with
 | .inl s=>if 240<=s.2.1 then .inr (s.1,4) else .inl (s.1,s.2.1+1,s.2.2)
 | .inr e=>.inr e
def gnS (E:PE) (m:Nat) (st:St):St:=match st with
 | .inl s=>stR s.2.1 s.2.2 (gN E m s.1 s.2.1)
 | .inr e=>.inr e
section
variable {E:PE} {z:Nat} {w0 W:World} {At:Option Addr} {ct:Nat} {st:St} {i d:Int} {A:Option Addr} {l c:Nat} {p q:Int}
theorem putU (h:Rv E z w0 (.slice At E.l.length ct) W st i d A l c p q) (n:Nd) (hl:∀s,st=.inl s->s.2.2.length+1<=2000000000000) :
  Cl 54 #[rdV (.slice At E.l.length ct) i z d (.slice A l c) p q,T.ndG n] W fun e W'=>Pu E z w0 (.slice At E.l.length ct) W (.slice A l c) st (zgr n st) e W':=by
 cases st with
 | inr e =>
  refine (zhe At E.l.length ct i z d A l c p q n (by rw [h.1];exact h.2.2.1) W).mono ?_;rintro e' W' ⟨rfl,hb⟩;exact ⟨_,_,_,_,_,_,_,rfl,h.later hb,Fd.below _ hb⟩
 | inl s =>
  by_cases hn:n.op=0
  ·have hp:zgr n (.inl s)=.inl s:=by unfold zgr;rw [iP hn];simp
   rw [hp];refine (zkK At E.l.length ct i z d A l c p q n h.1 hn W).mono ?_;rintro e' W' ⟨rfl,hb⟩;exact ⟨_,_,_,_,_,_,_,rfl,h.later hb,Fd.below _ hb⟩
  ·obtain ⟨rfl,rfl,rfl,rfl,rfl,hd⟩:=h
   refine (zhf hd s.1 z s.2.1 0 n hn (hl _ rfl)).mono ?_;rintro e' W' ⟨v',rfl,h1,h2⟩;have hp:zgr n (.inl s)=.inl (s.1,s.2.1,s.2.2++[n]):=by unfold zgr;rw [iN hn]
   rw [hp];obtain ⟨A2,c2,hv⟩:=zaf h1.o;subst hv;exact ⟨_,_,A2,_,c2,_,_,rfl,⟨rfl,rfl,rfl,rfl,rfl,h1⟩,h2⟩
theorem takesU (h:Rv E z w0 (.slice At E.l.length ct) W st i d A l c p q) (x:Int) (hx:x≠0) (hz:E.l.length<=1000000) :
  Cl 157 #[rdV (.slice At E.l.length ct) i z d (.slice A l c) p q,.int .i64 x] W fun e W'=>Pu E z w0 (.slice At E.l.length ct) W (.slice A l c) st (tkS E x st) e W':=by
 cases st with
 | inr e =>
  refine (zkL At E.l.length ct i z d A l c p q x (by rw [h.1];exact h.2.2.1) W).mono ?_;rintro e' W' ⟨rfl,hb⟩;exact ⟨_,_,_,_,_,_,_,rfl,h.later hb,Fd.below _ hb⟩
 | inl s =>
  obtain ⟨rfl,rfl,rfl,rfl,rfl,hd⟩:=h;by_cases hk:kdA E s.1=x
  ·have hlt:=za9 (E:=E) (i:=s.1) (by rw [hk];exact hx)
   have hp:tkS E x (.inl s)=.inl (s.1+1,s.2):=iP hk;rw [hp];refine (zkM hd z s.2.1 0 x hz hk hlt).mono ?_;rintro e' W' ⟨rfl,hb⟩;exact ⟨_,_,_,_,_,_,_,rfl,⟨rfl,rfl,rfl,rfl,rfl,(hd.later hb).at hlt⟩,Fd.below _ hb⟩
  ·have hp:tkS E x (.inl s)=.inr (s.1,60):=iN hk
   rw [hp];refine (ziD hd z s.2.1 0 x hz hk).mono ?_;rintro e' W' ⟨rfl,hb⟩;exact ⟨_,_,_,_,_,_,_,rfl,⟨rfl,rfl,by show (60:Int)≠0;decide,(hd.later hb).bl⟩,(Fd.below _ hb).weak⟩
theorem zno (h:Rv E z w0 (.slice At E.l.length ct) W st i d A l c p q) (hg:∃s,st=.inl s) :
  Cl 98 #[rdV (.slice At E.l.length ct) i z d (.slice A l c) p q] W fun e W'=>Pu E z w0 (.slice At E.l.length ct) W (.slice A l c) st (opS st) e W':=by
 obtain ⟨s,rfl⟩:=hg;obtain ⟨rfl,rfl,rfl,rfl,rfl,hd⟩:=h;by_cases hk:240<=s.2.1
 ·have hp:opS (.inl s)=.inr (s.1,4):=iP hk
  rw [hp];refine (zkJ hd z 0 hk).mono ?_;rintro e' W' ⟨rfl,hb⟩;exact ⟨_,_,_,_,_,_,_,rfl,⟨rfl,rfl,by show (4:Int)≠0;decide,(hd.later hb).bl⟩,(Fd.below _ hb).weak⟩
 ·have hp:opS (.inl s)=.inl (s.1,s.2.1+1,s.2.2):=iN hk
  rw [hp];refine (zkI hd s.1 z 0 0 hk).mono ?_;rintro e' W' ⟨rfl,hb⟩;exact ⟨_,_,_,_,_,_,_,rfl,⟨rfl,rfl,rfl,rfl,rfl,(hd.later hb).dp (show s.2.1+1<=240 by omega)⟩,Fd.below _ hb⟩
end
theorem zo8 (At:Option Addr) (nt ct:Nat) (i z d:Int) (A:Option Addr) (l c:Nat) (p q:Int) (hq:q≠0) (W:World):Cl 73 #[rdV (.slice At nt ct) i z d (.slice A l c) p q] W (rB W (rdV (.slice At nt ct) i z d (.slice A l c) p q)):=by
 have HK:Hid (∀W,Cl 15 #[rdV (.slice At nt ct) i z d (.slice A l c) p q] W (rB W (.bool false))):=fun W=>by
  have:=zaP At nt ct i z d A l c p q W;rw [show (q==0)=false from by simpa using hq] at this;exact this
 have HF:Hid (∀W,Cl 26 #[rdV (.slice At nt ct) i z d (.slice A l c) p q,.int .i64 60] W (rB W (rdV (.slice At nt ct) i z d (.slice A l c) p q))):=fun W=>zhU At nt ct i z d A l c p q 60 hq W
 have HX:=BX.new W (.slice At nt ct) i z d (.slice A l c) p q;have HBX:=hO HX.1;have HBL:=hO HX.2;clear HX hq;go_enter Tryz.func73,Tryz.ntmps73;go_wp2_with fail;generalize (W.alloc (rdO (.slice At nt ct) i z d (.slice A l c) p q)).alloc rdZ=w1 at *;refine (HK _).mono ?_;rintro e w2 ⟨rfl,hb⟩;have HX2:=hO (HBX.later hb);have HB2:Hid (bW W w2):=HBL.trans (hb.mono HBL.size);clear hb HK HBX HBL;obtain ⟨k0,k1,k2,k3,k4,k5,k6⟩:=HX2.s.cl;go_wp2_with fail;refine (HF _).mono ?_;rintro e w3 ⟨rfl,hb⟩;have HX3:=hO (HX2.later hb);have HB3:Hid (bW W w3):=HB2.trans (hb.mono HB2.size);clear hb HF HX2 HB2 k0 k1 k2 k3 k4 k5 k6;obtain ⟨f0,f1,f2,f3,f4,f5,f6⟩:=HX3.r.fzs;obtain ⟨m0,m1,m2,m3,m4,m5,m6⟩:=HX3.r.cl;go_wp2_with fail;refine zaV (s:=2) rfl rfl rfl (zaH HX3.r _ _ _ _ _ _ _) ?_;exact ⟨rfl,zaq HB3 (by omega) _ _ _ _ _ _ _⟩
theorem zo9 (At:Option Addr) (nt ct:Nat) (i z d:Int) (A:Option Addr) (l c:Nat) (p q:Int) (hq:q≠0) (W:World):Cl 29 #[rdV (.slice At nt ct) i z d (.slice A l c) p q] W (rB W (rdV (.slice At nt ct) i z d (.slice A l c) p q)):=by
 have HK:Hid (∀W,Cl 15 #[rdV (.slice At nt ct) i z d (.slice A l c) p q] W (rB W (.bool false))):=fun W=>by
  have:=zaP At nt ct i z d A l c p q W;rw [show (q==0)=false from by simpa using hq] at this;exact this
 have HX:=BX.new W (.slice At nt ct) i z d (.slice A l c) p q;have HBX:=hO HX.1;have HBL:=hO HX.2;clear HX hq;go_enter Tryz.func29,Tryz.ntmps29;go_wp2_with fail;generalize (W.alloc (rdO (.slice At nt ct) i z d (.slice A l c) p q)).alloc rdZ=w1 at *;refine (HK _).mono ?_;rintro e w2 ⟨rfl,hb⟩;have HX2:=hO (HBX.later hb);have HB2:Hid (bW W w2):=HBL.trans (hb.mono HBL.size);clear hb HK HBX HBL;obtain ⟨k0,k1,k2,k3,k4,k5,k6⟩:=HX2.s.cl;obtain ⟨f0,f1,f2,f3,f4,f5,f6⟩:=HX2.r.fzs;obtain ⟨m0,m1,m2,m3,m4,m5,m6⟩:=HX2.r.cl;go_wp2_with fail;refine zaV (s:=2) rfl rfl rfl (zaH HX2.r _ _ _ _ _ _ _) ?_;exact ⟨rfl,zaq HB2 (by omega) _ _ _ _ _ _ _⟩
theorem anyU {F m:Nat} {E:PE} {z:Nat} {w0 W:World} {At:Option Addr} {ct:Nat} {st:St} {i d:Int} {A:Option Addr} {l c:Nat} {p q:Int} (hno:∀(i z d:Int) (A:Option Addr) (l c:Nat) (p q:Int),q≠0->∀W,Cl F #[rdV (.slice At E.l.length ct) i z d (.slice A l c) p q] W (rB W (rdV (.slice At E.l.length ct) i z d (.slice A l c) p q)))
  (h:Rv E z w0 (.slice At E.l.length ct) W st i d A l c p q) (hm:m≠5) (hc:∀s,st=.inl s->Cd F E z w0 (.slice At E.l.length ct) s.1 s.2.1 (gN E m s.1 s.2.1)/\s.2.2.length<=10027010 * s.1) :
  Cl F #[rdV (.slice At E.l.length ct) i z d (.slice A l c) p q] W fun e W'=>Pu E z w0 (.slice At E.l.length ct) W (.slice A l c) st (gnS E m st) e W':=by
 cases st with
 | inr e =>
  refine (hno i z d A l c p q (by rw [h.1];exact h.2.2.1) W).mono ?_;rintro e' W' ⟨rfl,hb⟩;exact ⟨_,_,_,_,_,_,_,rfl,h.later hb,Fd.below _ hb⟩
 | inl s =>
  obtain ⟨rfl,rfl,rfl,rfl,rfl,hd⟩:=h;obtain ⟨h1,h2⟩:=hc _ rfl;refine (h1 W _ _ hd h2).mono fun e' W' hp=>PoD.u hp fun q hq=>?_
  have:=(zbA hd.hi (fun e=>absurd e hm) hq).2;omega
section
variable {k:Nat} {W W':World} {tv:Value} {i z d:Int} {v:Value} {p c:Int} {n:Nd}
theorem BN.kept (h:BN k W tv i z d v p c n) (hk:∀j,k<=j->j<k+3->W'.heap[j]?=W.heap[j]?):BN k W' tv i z d v p c n:=⟨h.s.same (hk _ (by omega) (by omega)),h.x.same (hk _ (by omega) (by omega)),h.r.same (hk _ (by omega) (by omega))⟩
theorem BN.st (h:BN k W tv i z d v p c n) (tv2:Value) (i2 z2 d2:Int) (v2:Value) (p2 c2:Int):BN k (st7 W k tv2 (.int .i64 i2) (.int .i64 z2) (.int .i64 d2) v2 (.int .i64 p2) (.int .i64 c2)) tv2 i2 z2 d2 v2 p2 c2 n :=
 ⟨zaH h.s _ _ _ _ _ _ _,h.x.same (zaw _ _ _ _ _ _ _ (by omega)),h.r.same (zaw _ _ _ _ _ _ _ (by omega))⟩
theorem BN.s1 (h:BN k W tv i z d v p c n) (x:Int):BN k (W.setCell ⟨k,1,none⟩ (.int .i64 x)) tv x z d v p c n:=⟨h.s.s1 _,h.x.same (bS _ _ _ _ (by show k+1≠k;omega)),h.r.same (bS _ _ _ _ (by show k+2≠k;omega))⟩
theorem BN.s3 (h:BN k W tv i z d v p c n) (x:Int):BN k (W.setCell ⟨k,3,none⟩ (.int .i64 x)) tv i z x v p c n:=⟨h.s.s3 _,h.x.same (bS _ _ _ _ (by show k+1≠k;omega)),h.r.same (bS _ _ _ _ (by show k+2≠k;omega))⟩
theorem BX.kept (h:BX k W tv i z d v p c) (hk:∀j,k<=j->j<k+2->W'.heap[j]?=W.heap[j]?):BX k W' tv i z d v p c:=⟨h.s.same (hk _ (by omega) (by omega)),h.r.same (hk _ (by omega) (by omega))⟩
end
theorem zkN {st:St} {s:Nat×Nat×List Nd} (h:upS st=.inl s):∃s0,st=.inl s0/\s=(s0.1+1,s0.2):=by
 cases st with
 | inl s0=>exact ⟨s0,rfl,(Sum.inl.inj h).symm⟩
 | inr e=>cases h
theorem zkO {st:St} {s:Nat×Nat×List Nd} (h:dnS st=.inl s):∃s0,st=.inl s0/\s=(s0.1,s0.2.1 - 1,s0.2.2):=by
 cases st with
 | inl s0=>exact ⟨s0,rfl,(Sum.inl.inj h).symm⟩
 | inr e=>cases h
theorem zkP {s0 s:Nat×Nat×List Nd} (h:opS (.inl s0)=.inl s):¬240<=s0.2.1/\s=(s0.1,s0.2.1+1,s0.2.2):=by
 by_cases hd:240<=s0.2.1
 ·rw [show opS (.inl s0)=.inr (s0.1,4) from iP hd] at h;cases h
 ·rw [show opS (.inl s0)=.inl (s0.1,s0.2.1+1,s0.2.2) from iN hd] at h;exact ⟨hd,(Sum.inl.inj h).symm⟩
theorem zpa {E:PE} {k:Int} {st:St} {s:Nat×Nat×List Nd} (h:tkS E k st=.inl s):∃s0,st=.inl s0/\kdA E s0.1=k/\s=(s0.1+1,s0.2):=by
 cases st with
 | inr e=>cases h
 | inl s0 =>
  by_cases hd:kdA E s0.1=k
  ·rw [show tkS E k (.inl s0)=.inl (s0.1+1,s0.2) from iP hd] at h;exact ⟨s0,rfl,hd,(Sum.inl.inj h).symm⟩
  ·rw [show tkS E k (.inl s0)=.inr (s0.1,60) from iN hd] at h;cases h
theorem zkQ {E:PE} {m:Nat} {st:St} {s:Nat×Nat×List Nd} (h:gnS E m st=.inl s):∃s0 a ns,st=.inl s0/\gN E m s0.1 s0.2.1=.inl (a,ns)/\s=(a,s0.2.1,s0.2.2++ns):=by
 cases st with
 | inr e=>cases h
 | inl s0 =>
  have h2:stR s0.2.1 s0.2.2 (gN E m s0.1 s0.2.1)=.inl s:=h
  cases hr:gN E m s0.1 s0.2.1 with
  | inr q=>rw [hr] at h2;cases h2
  | inl p=>rw [hr] at h2;exact ⟨s0,p.1,p.2,rfl,hr,(Sum.inl.inj h2).symm⟩
def pnN (n:Nd):List Nd:=if n.op=0 then [] else [n]
theorem wi_eq (E:PE) (i d:Nat) (L:List Nd) (cl:Int) (n:Nd):zgr n (dnS (tkS E cl (gnS E 0 (upS (opS (.inl (i,d,L)))))))=stR d L (bnd (rW E i d cl) fun a ms=>.inl (a,ms++pnN n)):=by
 unfold rW;by_cases hd:240<=d
 ·rw [iP hd,show opS (.inl (i,d,L))=.inr (i,4) from iP hd];rfl
 ·rw [iN hd,show opS (.inl (i,d,L))=.inl (i,d+1,L) from iN hd]
  show zgr n (dnS (tkS E cl (stR (d+1) L (gN E 0 (i+1) (d+1)))))=_
  cases gN E 0 (i+1) (d+1) with
  | inr q=>rfl
  | inl p =>
   show zgr n (dnS (if kdA E p.1=cl then .inl (p.1+1,d+1,L++p.2) else .inr (p.1,60)))=stR d L (bnd (if kdA E p.1=cl then .inl (p.1+1,p.2) else .inr (p.1,60)) _)
   by_cases hk:kdA E p.1=cl
   ·rw [iP hk,iP hk]
    show Sum.inl (p.1+1,d,(L++p.2)++pnN n)=Sum.inl (p.1+1,d,L++(p.2++pnN n))
    rw [List.append_assoc]
   ·rw [iN hk,iN hk];rfl
theorem ah_eq (E:PE) (i d:Nat) (L:List Nd) (n:Nd) (hn:n.op≠0) (op:Int) (he:n=nd0 op):zgr n (dnS (gnS E 4 (upS (opS (.inl (i,d,L))))))=stR d L (rA E i d op):=by
 subst he;unfold rA;by_cases hd:240<=d
 ·rw [iP hd,show opS (.inl (i,d,L))=.inr (i,4) from iP hd];rfl
 ·rw [iN hd,show opS (.inl (i,d,L))=.inl (i,d+1,L) from iN hd]
  show zgr (nd0 op) (dnS (stR (d+1) L (gN E 4 (i+1) (d+1))))=_
  cases gN E 4 (i+1) (d+1) with
  | inr q=>rfl
  | inl p =>
   show Sum.inl (p.1,d,(L++p.2)++(if (nd0 op).op=0 then [] else [nd0 op]))=Sum.inl (p.1,d,L++(p.2++[nd0 op]))
   rw [iN hn,List.append_assoc]
theorem zkR {E:PE} (hE:OkE E) {z:Nat} {w0:World} {tv:Value} {i d:Nat} (cl:Int) (hcl:cl≠0) (n:Nd) (hlt:i<E.l.length) (HX0:Cd 29 E z w0 tv (i+1) (d+1) (gN E 0 (i+1) (d+1))) (W:World) (v:Value) (L:List Nd) (h:DS E w0 W tv (i+1) d v L) (hL:L.length<=10027010 * i) :
  Cl 137 #[rdV tv (i+1:Nat) z d v 0 0,.int .i64 cl,T.ndG n] W fun e W'=>PoD E z w0 tv d W v L (bnd (rW E i d cl) fun a ms=>.inl (a,ms++pnN n)) e W':=by
 have hlen:=hE.len;have hz:=hE.z;obtain ⟨B,cB,hv⟩:=zaf h.o;subst hv;obtain ⟨At,ct,htv,_⟩:=h.tk;subst htv
 suffices Hm:Cl 137 #[rdV (.slice At E.l.length ct) (i+1:Nat) z d (.slice B L.length cB) 0 0,.int .i64 cl,T.ndG n] W fun e W'=>Pu E z w0 (.slice At E.l.length ct) W (.slice B L.length cB) (.inl (i,d,L)) (stR d L (bnd (rW E i d cl) fun a ms=>.inl (a,ms++pnN n))) e W' from Hm.mono fun _ _ hp=>hp.pod
 rw [<-wi_eq];obtain ⟨s0,hs0⟩:∃s,s=(.inl (i,d,L):St):=⟨_,rfl⟩;obtain ⟨s1,hs1⟩:∃s,s=opS s0:=⟨_,rfl⟩;obtain ⟨s2,hs2⟩:∃s,s=upS s1:=⟨_,rfl⟩;obtain ⟨s3,hs3⟩:∃s,s=gnS E 0 s2:=⟨_,rfl⟩;obtain ⟨s4,hs4⟩:∃s,s=tkS E cl s3:=⟨_,rfl⟩;obtain ⟨s5,hs5⟩:∃s,s=dnS s4:=⟨_,rfl⟩;obtain ⟨s6,hs6⟩:∃s,s=zgr n s5:=⟨_,rfl⟩;have F1:∀s,s1=.inl s->s=(i,d+1,L):=fun s e=>by rw [hs1,hs0] at e;exact (zkP e).2
 have F2:∀s,s2=.inl s->s=(i+1,d+1,L):=fun s e=>by
  rw [hs2] at e;obtain ⟨t,e1,e2⟩:=zkN e;rw [e2,F1 _ e1]
 have F4:∀s,s4=.inl s->s.2.1=d+1/\s.2.2.length+1<=2000000000000:=fun s e=>by
  rw [hs4] at e;obtain ⟨t,e1,_,e2⟩:=zpa e;rw [hs3] at e1;obtain ⟨t2,a,ns,e3,e4,e5⟩:=zkQ e1;have e6:=F2 _ e3;subst e6 e5 e2;have h1:=(zbW hE.rl (i:=i+1) (by omega) (by omega) e4).2;have h2:=(zbN (i:=i+1) (by omega) (by omega) e4).2.1;refine ⟨rfl,?_⟩
  show (L++ns).length+1<=_
  rw [lA];omega
 have H1:Hid (∀s,s1=.inl s->s.1<E.l.length):=fun s e=>by rw [F1 s e];exact hlt
 have H4:Hid (∀s,s4=.inl s->0<s.2.1):=fun s e=>by rw [(F4 s e).1];omega
 have HOp:Hid (∀(W:World) (i d:Int) (A:Option Addr) (l c:Nat) (p q:Int),Rv E z w0 (.slice At E.l.length ct) W s0 i d A l c p q->Cl 98 #[rdV (.slice At E.l.length ct) i z d (.slice A l c) p q] W fun e W'=>Pu E z w0 (.slice At E.l.length ct) W (.slice A l c) s0 s1 e W'):=fun W i d A l c p q h=>by rw [hs1];exact zno h ⟨_,hs0⟩
 have HEx:Hid (∀(W:World) (i d:Int) (A:Option Addr) (l c:Nat) (p q:Int),Rv E z w0 (.slice At E.l.length ct) W s2 i d A l c p q->Cl 29 #[rdV (.slice At E.l.length ct) i z d (.slice A l c) p q] W fun e W'=>Pu E z w0 (.slice At E.l.length ct) W (.slice A l c) s2 s3 e W'):=fun W i' d' A l c p q h=>by
  rw [hs3];refine anyU (m:=0) (zo9 At E.l.length ct) h (by decide) fun s e=>?_
  rw [F2 s e];exact ⟨HX0,by show L.length<=10027010 * (i+1);omega⟩
 have HTk:Hid (∀(W:World) (i d:Int) (A:Option Addr) (l c:Nat) (p q:Int),Rv E z w0 (.slice At E.l.length ct) W s3 i d A l c p q->Cl 157 #[rdV (.slice At E.l.length ct) i z d (.slice A l c) p q,.int .i64 cl] W fun e W'=>Pu E z w0 (.slice At E.l.length ct) W (.slice A l c) s3 s4 e W'):=fun W i d A l c p q h=>by rw [hs4];exact takesU h cl hcl hz
 have HPu:Hid (∀(W:World) (i d:Int) (A:Option Addr) (l c:Nat) (p q:Int),Rv E z w0 (.slice At E.l.length ct) W s5 i d A l c p q->Cl 54 #[rdV (.slice At E.l.length ct) i z d (.slice A l c) p q,T.ndG n] W fun e W'=>Pu E z w0 (.slice At E.l.length ct) W (.slice A l c) s5 s6 e W'):=fun W i d A l c p q h=>by
  rw [hs6];refine putU h n fun s e=>?_
  rw [hs5] at e;obtain ⟨t,e1,e2⟩:=zkO e;rw [e2];exact (F4 _ e1).2
 have HX:=BN.new W (.slice At E.l.length ct) i z d (.slice B L.length cB) 0 0 n;have HB:=hO HX.1;have HW:Hid (WS E z w0 (.slice At E.l.length ct) W 3 (.slice B L.length cB) (((W.alloc (rdO (.slice At E.l.length ct) i z d (.slice B L.length cB) 0 0)).alloc (T.ndO n)).alloc rdZ) s0 i d B L.length cB 0 0):=by
  rw [hs0];exact WS.new (h.at (by omega)) HX.2 (by rw [sA,sA,sA];omega)
 rw [<-hs0,<-hs1,<-hs2,<-hs3,<-hs4,<-hs5,<-hs6];have HS0:=hO hs0;have HS2:Hid (upS s1=s2):=hs2.symm;have HS5:Hid (dnS s4=s5):=hs5.symm;have HZ:Hid (E.l.length<=1000000):=hz;obtain ⟨ii,hii⟩:∃x:Int,x=((i+1:Nat):Int):=⟨_,rfl⟩;have u0:IntKind.i64.wrap (ii - 1)=(i:Int):=by rw [wI];omega
 rw [<-hii];clear hs0 hs1 hs2 hs3 hs4 hs5 hs6 F1 F2 F4 HX h hL HX0 hE hlt hlen hz hcl hii;go_enter Tryz.func137,Tryz.ntmps137;go_wp2_with fail;generalize ((W.alloc (rdO (.slice At E.l.length ct) i z d (.slice B L.length cB) 0 0)).alloc (T.ndO n)).alloc rdZ=w1 at *;refine (HOp _ _ _ _ _ _ _ _ HW.rv).mono ?_;rintro e w2 ⟨i2,d2,A2,l2,c2,p2,q2,rfl,hr,hf⟩;have HB2:=hO (HB.kept (HW.keep hf));have HW2:=hO (HW.call hr hf);clear hr hf HOp HW HB;obtain ⟨k0,k1,k2,k3,k4,k5,k6⟩:=HB2.s.cl;obtain ⟨f0,f1,f2,f3,f4,f5,f6⟩:=HB2.s.fzs;obtain ⟨v2,hv2⟩:∃w,(((((((w2.setCell ⟨W.heap.size,0,none⟩ (.slice At E.l.length ct)).setCell ⟨W.heap.size,1,none⟩ (.int .i64 i2)).setCell ⟨W.heap.size,2,none⟩ (.int .i64 z)).setCell ⟨W.heap.size,3,none⟩ (.int .i64 d2)).setCell ⟨W.heap.size,4,none⟩ (.slice A2 l2 c2)).setCell ⟨W.heap.size,5,none⟩ (.int .i64 p2)).setCell ⟨W.heap.size,6,none⟩ (.int .i64 q2))=w:=⟨_,rfl⟩;have HBs:Hid (BN W.heap.size v2 (.slice At E.l.length ct) i2 z d2 (.slice A2 l2 c2) p2 q2 n):=by rw [<-hv2];exact HB2.st _ _ _ _ _ _ _
 have HWs:Hid (WS E z w0 (.slice At E.l.length ct) W 3 (.slice B L.length cB) v2 s1 i2 d2 A2 l2 c2 p2 q2):=by rw [<-hv2];exact HW2.st7 (nL _) (by omega) _ _ _ _ _ _ _
 have HEs:=hO hv2;obtain ⟨h0,h1,h2,h3,h4,h5,h6⟩:=HBs.s.cl;obtain ⟨g0,g1,g2,g3,g4,g5,g6⟩:=HBs.s.fzs;clear hv2 HB2 HW2;obtain ⟨j2,hj2⟩:∃j,IntKind.i64.wrap (i2+1)=j:=⟨_,rfl⟩;go_wp2_with (rw [HEs.out])
 have HB3:=hO (HBs.s1 j2);have HW3:=hO ((HWs.set (nL _) (by omega) 1 (.int .i64 j2)).up H1.out HZ.out);rw [HS2.out,hj2] at HW3;clear hj2 HBs HWs HEs k0 k1 k2 k3 k4 k5 k6 f0 f1 f2 f3 f4 f5 f6 h0 h1 h2 h3 h4 h5 h6 g0 g1 g2 g3 g4 g5 g6;refine (HEx _ _ _ _ _ _ _ _ HW3.rv).mono ?_;rintro e w4 ⟨i4,d4,A4,l4,c4,p4,q4,rfl,hr,hf⟩;have HB4:=hO (HB3.kept (HW3.keep hf));have HW4:=hO (HW3.call hr hf);clear hr hf HEx HW3 HB3;obtain ⟨k0,k1,k2,k3,k4,k5,k6⟩:=HB4.s.cl;obtain ⟨f0,f1,f2,f3,f4,f5,f6⟩:=HB4.s.fzs;obtain ⟨v4,hv4⟩:∃w,(((((((w4.setCell ⟨W.heap.size,0,none⟩ (.slice At E.l.length ct)).setCell ⟨W.heap.size,1,none⟩ (.int .i64 i4)).setCell ⟨W.heap.size,2,none⟩ (.int .i64 z)).setCell ⟨W.heap.size,3,none⟩ (.int .i64 d4)).setCell ⟨W.heap.size,4,none⟩ (.slice A4 l4 c4)).setCell ⟨W.heap.size,5,none⟩ (.int .i64 p4)).setCell ⟨W.heap.size,6,none⟩ (.int .i64 q4))=w:=⟨_,rfl⟩;have HBs:Hid (BN W.heap.size v4 (.slice At E.l.length ct) i4 z d4 (.slice A4 l4 c4) p4 q4 n):=by rw [<-hv4];exact HB4.st _ _ _ _ _ _ _
 have HWs:Hid (WS E z w0 (.slice At E.l.length ct) W 3 (.slice B L.length cB) v4 s3 i4 d4 A4 l4 c4 p4 q4):=by rw [<-hv4];exact HW4.st7 (nL _) (by omega) _ _ _ _ _ _ _
 have HEs:=hO hv4;obtain ⟨h0,h1,h2,h3,h4,h5,h6⟩:=HBs.s.cl;obtain ⟨g0,g1,g2,g3,g4,g5,g6⟩:=HBs.s.fzs;clear hv4 HB4 HW4;go_wp2_with (rw [HEs.out])
 clear HEs k0 k1 k2 k3 k4 k5 k6 f0 f1 f2 f3 f4 f5 f6 h0 h1 h2 h3 h4 h5 h6 g0 g1 g2 g3 g4 g5 g6;refine (HTk _ _ _ _ _ _ _ _ HWs.rv).mono ?_;rintro e w6 ⟨i6,d6,A6,l6,c6,p6,q6,rfl,hr,hf⟩;have HB6:=hO (HBs.kept (HWs.keep hf));have HW6:=hO (HWs.call hr hf);clear hr hf HTk HWs HBs;obtain ⟨k0,k1,k2,k3,k4,k5,k6⟩:=HB6.s.cl;obtain ⟨f0,f1,f2,f3,f4,f5,f6⟩:=HB6.s.fzs;obtain ⟨v6,hv6⟩:∃w,(((((((w6.setCell ⟨W.heap.size,0,none⟩ (.slice At E.l.length ct)).setCell ⟨W.heap.size,1,none⟩ (.int .i64 i6)).setCell ⟨W.heap.size,2,none⟩ (.int .i64 z)).setCell ⟨W.heap.size,3,none⟩ (.int .i64 d6)).setCell ⟨W.heap.size,4,none⟩ (.slice A6 l6 c6)).setCell ⟨W.heap.size,5,none⟩ (.int .i64 p6)).setCell ⟨W.heap.size,6,none⟩ (.int .i64 q6))=w:=⟨_,rfl⟩;have HBs:Hid (BN W.heap.size v6 (.slice At E.l.length ct) i6 z d6 (.slice A6 l6 c6) p6 q6 n):=by rw [<-hv6];exact HB6.st _ _ _ _ _ _ _
 have HWs:Hid (WS E z w0 (.slice At E.l.length ct) W 3 (.slice B L.length cB) v6 s4 i6 d6 A6 l6 c6 p6 q6):=by rw [<-hv6];exact HW6.st7 (nL _) (by omega) _ _ _ _ _ _ _
 have HEs:=hO hv6;obtain ⟨h0,h1,h2,h3,h4,h5,h6⟩:=HBs.s.cl;obtain ⟨g0,g1,g2,g3,g4,g5,g6⟩:=HBs.s.fzs;clear hv6 HB6 HW6;obtain ⟨n0,n1,n2,n3,n4,n5,n6⟩:=zce HBs.x;obtain ⟨j6,hj6⟩:∃j,IntKind.i64.wrap (d6 - 1)=j:=⟨_,rfl⟩;go_wp2_with (rw [HEs.out])
 have HB7:=hO (HBs.s3 j6);have HW7:=hO ((HWs.set (nL _) (by omega) 3 (.int .i64 j6)).dn H4.out);rw [HS5.out,hj6] at HW7;clear hj6 HBs HWs HEs k0 k1 k2 k3 k4 k5 k6 f0 f1 f2 f3 f4 f5 f6 h0 h1 h2 h3 h4 h5 h6 g0 g1 g2 g3 g4 g5 g6 n0 n1 n2 n3 n4 n5 n6;refine (HPu _ _ _ _ _ _ _ _ HW7.rv).mono ?_;rintro e w8 ⟨i8,d8,A8,l8,c8,p8,q8,rfl,hr,hf⟩;have HB8:=hO (HB7.kept (HW7.keep hf));have HW8:=hO (HW7.call hr hf);clear hr hf HPu HW7 HB7;obtain ⟨m0,m1,m2,m3,m4,m5,m6⟩:=HB8.r.cl;obtain ⟨f0,f1,f2,f3,f4,f5,f6⟩:=HB8.r.fzs;go_wp2_with fail;refine zaV (s:=6) rfl rfl rfl (zaH HB8.r _ _ _ _ _ _ _) ?_;rw [HS0.out];exact (HW8.st7 (by omega) (by omega) _ _ _ _ _ _ _).pu _
end Go.Proofs.YtkihfkcmcdiajabGreatDoor.N
