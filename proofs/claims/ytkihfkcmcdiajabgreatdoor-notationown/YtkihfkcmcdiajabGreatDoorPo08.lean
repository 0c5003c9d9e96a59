import Derived.Test.YtkihfkcmcdiajabGreatDoorPo07
set_option maxRecDepth 100000
set_option maxHeartbeats 8000000
namespace Go.Proofs.YtkihfkcmcdiajabGreatDoor.N
open Go.RowKit
theorem zjE (a b:Int):(rnP a b).length+1<=10027010:=by
 unfold rnP;rw [List.length_map];have h1:=R.zfG a b 5;rw [R.zds] at h1;unfold R.zgy
 split
 ·simp
 ·have h2:=R.zfH (R.zcK a b) (R.zcK a b).length (fun s hs=>(R.zdw a b s hs).2.2)
  omega
structure OkE (E:PE):Prop where
 len:E.l.length<=65536
 rn:E.rn=rnP
 tm:E.tm=T.tmB
 rg:∀t∈E.l,t.kd=5->0<=t.nn/\t.nn<=t.s0/\t.s0<=1114111
 tx:∀t∈E.l,t.tx.size<=65536
 n0:∀t∈E.l,t.kd=10∨t.kd=11∨t.kd=12->t.nn=0
theorem OkE.rl {E:PE} (h:OkE E):∀a b,(E.rn a b).length+1<=10027010:=fun a b=>by rw [h.rn];exact zjE a b
theorem OkE.z {E:PE} (h:OkE E):E.l.length<=1000000:=Nat.le_trans h.len (by omega)
def PoR (E:PE) (z:Nat) (w0:World) (b:Nat) (tv:Value) (d:Nat) (W:World) (v:Value) (L:List Nd) (r:PR) (e:Ending) (W':World):Prop:=match r with
 | .inl p=>e=.returned (.tuple #[])/\∃v',RS E z w0 W' b tv p.1 d v' (L++p.2)/\Fr W W' b v v'
 | .inr q=>e=pnc (plA E z q.1) q.2/\bW w0 W'
def Ct (F:Nat) (E:PE) (z:Nat) (w0:World) (b:Nat) (tv:Value) (i d:Nat) (r:PR):Prop :=
 ∀(W:World) (v:Value) (L:List Nd),RS E z w0 W b tv i d v L->L.length<=10027010 * i->Cl F #[.pointer (some ⟨b,0,none⟩)] W fun e W'=>PoR E z w0 b tv d W v L r e W'
def nxt (b:Nat) (W:World):Nat:=match W.cell? ⟨b,1,none⟩ with
 | some (.int .i64 i)=>i.toNat
 | _=>0
theorem RS.nx {E:PE} {z:Nat} {w0 W:World} {b:Nat} {tv:Value} {i d:Nat} {v:Value} {L:List Nd} (h:RS E z w0 W b tv i d v L):nxt b W=i:=by
 unfold nxt;rw [h.x.cl.2.1];rfl
theorem zfJ {E:PE} {z:Nat} {w0 W:World} {b:Nat} {tv:Value} {i d:Nat} {v:Value} {L:List Nd} (h:RS E z w0 W b tv i d v L) (n:Nd) (hl:L.length+1<=2000000000000) :
  Cl 90 #[.pointer (some ⟨b,0,none⟩),.slice (some ⟨W.heap.size,0,none⟩) 1 1] (W.alloc (.cells #[.int .i64 n.op,.int .i64 n.nn,.string n.tx,.int .u64 n.s0,.int .u64 n.s1,.int .u64 n.s2,.int .u64 n.s3] 65)) fun e W'=>e=.returned (.tuple #[])/\∃v',RS E z w0 W' b tv i d v' (L++[n])/\Fr W W' b v v':=by
 refine (zjt (h.later (zaa W _)) [n] W.heap.size 1 (by simp) hl (by rw [T.zdO];exact World.news_of_block (t:=65) (fr:=(0,0)) (heap_alloc_new W _))).mono ?_;rintro e w' ⟨h1,v',h2,h3⟩;exact ⟨h1,v',h2,(Fr.below b v (zaa W _)).trans h3⟩
theorem zjF {E:PE} (hE:OkE E) {z:Nat} {w0:World} {b:Nat} {tv:Value} {i d:Nat} (HS0:∀a,i<=a->a<=E.l.length->Ct 89 E z w0 b tv a d (gN E 2 a d)):Ct 63 E z w0 b tv i d (gN E 0 i d):=by
 intro W v L h hL;have hi:=h.hi;have hlen:=hE.len;have HS:Hid (∀a,i<=a->a<=E.l.length->Ct 89 E z w0 b tv a d (gN E 2 a d)):=HS0;have H:=hO h;have HE:=hO hE;have HC:Hid (∀_:Unit,Cl 89 #[.pointer (some ⟨b,0,none⟩)] W fun e W'=>PoR E z w0 b tv d W v L (gN E 2 i d) e W'):=fun _=>HS0 i (nL _) hi W v L h hL
 have HG:=hO (g0 E i d hi);clear h hE HS0
 cases hr:gN E 2 i d with
 | inr q =>
  rw [hr] at HC HG;have HV:Hid (gN E 0 i d=.inr q):=HG.out;rw [HV.out];clear HG hr HS;go_enter Tryz.func63,Tryz.ntmps63;go_wp2_with fail;refine (HC ()).mono ?_;rintro e w1 ⟨rfl,hb⟩;exact zah rfl ⟨rfl,hb⟩
 | inl p =>
  obtain ⟨a,ns⟩:=p;rw [hr] at HC HG;have hadv:=zbN hi (by omega) hr;have hlenN:=(zbW HE.rl hi (by omega) hr).1 (by omega);have HV:Hid (gN E 0 i d=ahd ns (gN E 1 a d)):=HG.out;generalize gN E 0 i d=R0 at *;have hia:=hadv.2.2 (by omega);have hal:=hadv.2.1;clear HG hr hadv;go_enter Tryz.func63,Tryz.ntmps63;go_wp2_with fail;refine (HC ()).mono ?_;rintro e w1 ⟨rfl,v1,h1,hf1⟩;have H1:=hO h1;have HF1:Hid (Fr W w1 b v v1):=hf1;obtain ⟨v0,hv0⟩:∃u,u=v:=⟨_,rfl⟩;rw [<-hv0] at HF1;clear HC h1 hf1;go_wp2_with fail;go_loopw [4] (fun _ wr=>∃(a:Nat) (v:Value) (M:List Nd),i<a/\a<=E.l.length/\(L++M).length<=10027010 * a/\Hid (RS E z w0 wr b tv a d v (L++M))/\Hid (Fr W wr b v0 v)/\Hid (R0=ahd M (gN E 1 a d))) (fun _ wr=>E.l.length - nxt b wr)
  case atStart=>exact ⟨a,v1,ns,hia,hal,by rw [lA];omega,H1,HF1,HV⟩
  case round =>
   obtain ⟨a,v,M,ha1,ha2,hlm,HW,HFW,HR⟩:=hrel;clear H1 HF1 HV hia hal hlenN;have HGa:=hO (g1 E a d ha2);obtain ⟨t,ht,hk,_,_⟩:=zav E z ha2;have HH:Hid (∀_:Unit,Cl 33 #[.pointer (some ⟨b,0,none⟩)] wr (rB wr (.agg #[.int .i64 t.kd,.int .i64 t.nn,.int .i64 t.fr,.int .i64 t.en,.string t.tx,.int .u64 t.s0,.int .u64 t.s1,.int .u64 t.s2,.int .u64 t.s3]))):=fun _=>zay HW t ht
   have fl0:=ziR;have hz:=HE.z;by_cases hkk:kdA E a=7
   ·have hlt:=za9 (E:=E) (i:=a) (by omega)
    rw [hk.trans hkk] at HH;have HP:Hid (∀W,RS E z w0 W b tv a d v (L++M)->Cl 62 #[.pointer (some ⟨b,0,none⟩),.int .i64 7] W fun e W'=>e=.returned (.tuple #[])/\RS E z w0 W' b tv (a+1) d v (L++M)/\Fr W W' b v v):=fun W h=>by
     have:=zcw h hlt hz;rw [hkk] at this;exact this
    clear ht hk;have HSa:Hid (∀W,RS E z w0 W b tv (a+1) d v (L++M)->Cl 89 #[.pointer (some ⟨b,0,none⟩)] W fun e W'=>PoR E z w0 b tv d W v (L++M) (gN E 2 (a+1) d) e W'):=fun W h=>HS (a+1) (by omega) (by omega) W v _ h (by omega)
    cases hr:gN E 2 (a+1) d with
    | inr q =>
     have HV:Hid (R0=.inr q):=by
      show R0=_
      rw [HR.out,HGa.out,iP hkk,hr];rfl
     rw [hr] at HSa;clear HR HGa hr hkk;go_wp2_with fail;refine (HH ()).mono ?_;rintro e w1 ⟨rfl,hb⟩;have HY:=hO (HW.later hb);have HFY:Hid (Fr wr w1 b v v):=Fr.below b v hb;clear hb HH;go_wp2_with fail;refine (HP _ HY.out).mono ?_;rintro e w2 ⟨rfl,h2,hf2⟩;have HX:=hO h2;have HFX:Hid (Fr wr w2 b v v):=HFY.trans hf2;clear h2 hf2 HY HFY HP;go_wp2_with fail;refine (HSa _ HX.out).mono ?_;rintro e w3 ⟨rfl,hb⟩;exact zah (P:=Tryz.prog) (fn:=Tryz.f63) rfl (by subst hv0;show PoR E z w0 b tv d W _ L R0 _ _;rw [HV.out];exact ⟨rfl,hb⟩)
    | inl p =>
     obtain ⟨a2,ns2⟩:=p;have hadv:=zbN (i:=a+1) (by omega) (by omega) hr;have hln:=(zbW HE.rl (i:=a+1) (by omega) (by omega) hr).1 (by omega);have hia:=hadv.2.2 (by omega);have hal:=hadv.2.1;have HV:Hid (R0=ahd (M++(ns2++[nd0 8])) (gN E 1 a2 d)):=by
      show R0=_
      rw [HR.out,HGa.out,iP hkk,hr]
      show ahd M (ahd (ns2++[nd0 8]) (gN E 1 a2 d))=_
      rw [zcs]
     rw [hr] at HSa;have HPu:Hid (∀W v,RS E z w0 W b tv a2 d v (L++M++ns2)->Cl 90 #[.pointer (some ⟨b,0,none⟩),.slice (some ⟨W.heap.size,0,none⟩) 1 1] (W.alloc (.cells #[.int .i64 8,.int .i64 0,.string ⟨#[]⟩,.int .u64 0,.int .u64 0,.int .u64 0,.int .u64 0] 65)) fun e W'=>e=.returned (.tuple #[])/\∃v',RS E z w0 W' b tv a2 d v' (L++(M++(ns2++[nd0 8])))/\Fr W W' b v v'):=fun W v h=>by
      have:=zfJ h (nd0 8) (by rw [lA];omega);rw [List.append_assoc,List.append_assoc] at this;exact this
     have hll:(L++(M++(ns2++[nd0 8]))).length<=10027010 * a2:=by
      rw [lA] at hlm;rw [lA,lA,lA,List.length_singleton];omega
     clear HR HGa hr hkk hadv hln;go_wp2_with fail;refine (HH ()).mono ?_;rintro e w1 ⟨rfl,hb⟩;have HY:=hO (HW.later hb);have HFY:Hid (Fr wr w1 b v v):=Fr.below b v hb;clear hb HH;go_wp2_with fail;refine (HP _ HY.out).mono ?_;rintro e w2 ⟨rfl,h2,hf2⟩;have HX:=hO h2;have HFX:Hid (Fr wr w2 b v v):=HFY.trans hf2;clear h2 hf2 HY HFY HP;go_wp2_with fail;refine (HSa _ HX.out).mono ?_;rintro e w3 ⟨rfl,v3,h3,hf3⟩;have H3:=hO h3;have HF3:Hid (Fr W w3 b v0 v3):=HFW.trans (HFX.trans hf3);clear h3 hf3 HX HSa HFX;go_wp2_with fail;refine (HPu _ _ H3.out).mono ?_;rintro e w4 ⟨rfl,v4,h4,hf4⟩;have H4:=hO h4;have HF4:Hid (Fr W w4 b v0 v4):=HF3.trans hf4;clear h4 hf4 H3 HF3 HPu;go_wp2_with fail;go_roundw
     case rel=>exact ⟨a2,v4,_,by omega,hal,hll,H4,HF4,HV⟩
     case measure=>rw [HW.nx,H4.nx];omega
   ·have HV:Hid (R0=.inl (a,M)):=by
     show R0=_
     rw [HR.out,HGa.out,iN hkk]
     show Sum.inl (a,M++[])=_
     rw [List.append_nil]
    have t1:(t.kd==7)=false:=by rw [hk];exact bF hkk
    clear HR HGa hkk ht hk HS;go_wp2_with fail;refine (HH ()).mono ?_;rintro e w2 ⟨rfl,hb⟩;have HY:=hO (HW.later hb);have HFY:Hid (Fr wr w2 b v v):=Fr.below b v hb;clear hb HH HW;go_wp2_with fail;go_end0
    subst hv0;show PoR E z w0 b tv d W _ L R0 _ _
    rw [HV.out];exact ⟨rfl,_,HY.out,HFW.trans HFY.out⟩
theorem zjG {E:PE} (hE:OkE E) {z:Nat} {w0:World} {b:Nat} {tv:Value} {i d:Nat} (HS0:∀a,i<=a->a<=E.l.length->Ct 117 E z w0 b tv a d (gN E 4 a d)):Ct 89 E z w0 b tv i d (gN E 2 i d):=by
 intro W v L h hL;have hi:=h.hi;have hlen:=hE.len;have HS:Hid (∀a,i<=a->a<=E.l.length->Ct 117 E z w0 b tv a d (gN E 4 a d)):=HS0;have H:=hO h;have HE:=hO hE;have HC:Hid (∀_:Unit,Cl 117 #[.pointer (some ⟨b,0,none⟩)] W fun e W'=>PoR E z w0 b tv d W v L (gN E 4 i d) e W'):=fun _=>HS0 i (nL _) hi W v L h hL
 have HG:=hO (g2 E i d hi);clear h hE HS0
 cases hr:gN E 4 i d with
 | inr q =>
  rw [hr] at HC HG;have HV:Hid (gN E 2 i d=.inr q):=HG.out;rw [HV.out];clear HG hr HS;go_enter Tryz.func89,Tryz.ntmps89;go_wp2_with fail;refine (HC ()).mono ?_;rintro e w1 ⟨rfl,hb⟩;exact zah rfl ⟨rfl,hb⟩
 | inl p =>
  obtain ⟨a,ns⟩:=p;rw [hr] at HC HG;have hadv:=zbN hi (by omega) hr;have hlenN:=(zbW HE.rl hi (by omega) hr).1 (by omega);have HV:Hid (gN E 2 i d=ahd ns (gN E 3 a d)):=HG.out;generalize gN E 2 i d=R0 at *;have hia:=hadv.2.2 (by omega);have hal:=hadv.2.1;clear HG hr hadv;go_enter Tryz.func89,Tryz.ntmps89;go_wp2_with fail;refine (HC ()).mono ?_;rintro e w1 ⟨rfl,v1,h1,hf1⟩;have H1:=hO h1;have HF1:Hid (Fr W w1 b v v1):=hf1;obtain ⟨v0,hv0⟩:∃u,u=v:=⟨_,rfl⟩;rw [<-hv0] at HF1;clear HC h1 hf1;go_wp2_with fail;go_loopw [4] (fun _ wr=>∃(a:Nat) (v:Value) (M:List Nd),i<a/\a<=E.l.length/\(L++M).length<=10027010 * a/\Hid (RS E z w0 wr b tv a d v (L++M))/\Hid (Fr W wr b v0 v)/\Hid (R0=ahd M (gN E 3 a d))) (fun _ wr=>E.l.length - nxt b wr)
  case atStart=>exact ⟨a,v1,ns,hia,hal,by rw [lA];omega,H1,HF1,HV⟩
  case round =>
   obtain ⟨a,v,M,ha1,ha2,hlm,HW,HFW,HR⟩:=hrel;clear H1 HF1 HV hia hal hlenN;have HGa:=hO (g3 E a d ha2);have hz:=HE.z;have HH:Hid (∀_:Unit,Cl 118 #[.pointer (some ⟨b,0,none⟩)] wr (rB wr (.bool (bgn E a)))):=fun _=>zfB HW hz
   by_cases hkk:bgn E a=true
   ·have hlt:=zc6 hkk
    rw [hkk] at HH;have HSa:Hid (∀W,RS E z w0 W b tv (a) d v (L++M)->Cl 117 #[.pointer (some ⟨b,0,none⟩)] W fun e W'=>PoR E z w0 b tv d W v (L++M) (gN E 4 (a) d) e W'):=fun W h=>HS (a) (by omega) (by omega) W v _ h (by omega)
    cases hr:gN E 4 (a) d with
    | inr q =>
     have HV:Hid (R0=.inr q):=by
      show R0=_
      rw [HR.out,HGa.out,iP hkk,hr];rfl
     rw [hr] at HSa;clear HR HGa hr hkk;go_wp2_with fail;refine (HH ()).mono ?_;rintro e w1 ⟨rfl,hb⟩;have HX:=hO (HW.later hb);have HFX:Hid (Fr wr w1 b v v):=Fr.below b v hb;clear hb HH;go_wp2_with fail;refine (HSa _ HX.out).mono ?_;rintro e w3 ⟨rfl,hb⟩;exact zah (P:=Tryz.prog) (fn:=Tryz.f89) rfl (by subst hv0;show PoR E z w0 b tv d W _ L R0 _ _;rw [HV.out];exact ⟨rfl,hb⟩)
    | inl p =>
     obtain ⟨a2,ns2⟩:=p;have hadv:=zbN (i:=a) (by omega) (by omega) hr;have hln:=(zbW HE.rl (i:=a) (by omega) (by omega) hr).1 (by omega);have hia:=hadv.2.2 (by omega);have hal:=hadv.2.1;have HV:Hid (R0=ahd (M++(ns2++[nd0 7])) (gN E 3 a2 d)):=by
      show R0=_
      rw [HR.out,HGa.out,iP hkk,hr]
      show ahd M (ahd (ns2++[nd0 7]) (gN E 3 a2 d))=_
      rw [zcs]
     rw [hr] at HSa;have HPu:Hid (∀W v,RS E z w0 W b tv a2 d v (L++M++ns2)->Cl 90 #[.pointer (some ⟨b,0,none⟩),.slice (some ⟨W.heap.size,0,none⟩) 1 1] (W.alloc (.cells #[.int .i64 7,.int .i64 0,.string ⟨#[]⟩,.int .u64 0,.int .u64 0,.int .u64 0,.int .u64 0] 65)) fun e W'=>e=.returned (.tuple #[])/\∃v',RS E z w0 W' b tv a2 d v' (L++(M++(ns2++[nd0 7])))/\Fr W W' b v v'):=fun W v h=>by
      have:=zfJ h (nd0 7) (by rw [lA];omega);rw [List.append_assoc,List.append_assoc] at this;exact this
     have hll:(L++(M++(ns2++[nd0 7]))).length<=10027010 * a2:=by
      rw [lA] at hlm;rw [lA,lA,lA,List.length_singleton];omega
     clear HR HGa hr hkk hadv hln;go_wp2_with fail;refine (HH ()).mono ?_;rintro e w1 ⟨rfl,hb⟩;have HX:=hO (HW.later hb);have HFX:Hid (Fr wr w1 b v v):=Fr.below b v hb;clear hb HH;go_wp2_with fail;refine (HSa _ HX.out).mono ?_;rintro e w3 ⟨rfl,v3,h3,hf3⟩;have H3:=hO h3;have HF3:Hid (Fr W w3 b v0 v3):=HFW.trans (HFX.trans hf3);clear h3 hf3 HX HSa HFX;go_wp2_with fail;refine (HPu _ _ H3.out).mono ?_;rintro e w4 ⟨rfl,v4,h4,hf4⟩;have H4:=hO h4;have HF4:Hid (Fr W w4 b v0 v4):=HF3.trans hf4;clear h4 hf4 H3 HF3 HPu;go_wp2_with fail;go_roundw
     case rel=>exact ⟨a2,v4,_,by omega,hal,hll,H4,HF4,HV⟩
     case measure=>rw [HW.nx,H4.nx];omega
   ·have HV:Hid (R0=.inl (a,M)):=by
     show R0=_
     rw [HR.out,HGa.out,iN hkk]
     show Sum.inl (a,M++[])=_
     rw [List.append_nil]
    rw [Bool.eq_false_iff.2 hkk] at HH;clear HR HGa hkk HS;go_wp2_with fail;refine (HH ()).mono ?_;rintro e w2 ⟨rfl,hb⟩;have HY:=hO (HW.later hb);have HFY:Hid (Fr wr w2 b v v):=Fr.below b v hb;clear hb HH HW;go_wp2_with fail;go_end0
    subst hv0;show PoR E z w0 b tv d W _ L R0 _ _
    rw [HV.out];exact ⟨rfl,_,HY.out,HFW.trans HFY.out⟩
def rW (E:PE) (i d:Nat) (c:Int):PR:=if 240<=d then .inr (i,4) else bnd (gN E 0 (i+1) (d+1)) fun a ms=>if kdA E a=c then .inl (a+1,ms) else .inr (a,60)
def rA (E:PE) (i d:Nat) (op:Int):PR:=if 240<=d then .inr (i,4) else bnd (gN E 4 (i+1) (d+1)) fun a ns=>.inl (a,ns++[nd0 op])
theorem zgf {E:PE} (hE:OkE E) {z:Nat} {w0:World} {b:Nat} {tv:Value} {i d:Nat} (op:Int) (hlt:i<E.l.length) (HP0:Ct 117 E z w0 b tv (i+1) (d+1) (gN E 4 (i+1) (d+1))) (W:World) (v:Value) (L:List Nd) (h:RS E z w0 W b tv i d v L) (hL:L.length<=10027010 * i) :
  Cl 133 #[.pointer (some ⟨b,0,none⟩),.int .i64 op] W fun e W'=>PoR E z w0 b tv d W v L (rA E i d op) e W':=by
 have hlen:=hE.len;have hz:=hE.z;have H:=hO h;have HE:=hO hE;unfold rA;by_cases hd:240<=d
 ·rw [iP hd]
  have HN:Hid (∀_:Unit,Cl 151 #[.pointer (some ⟨b,0,none⟩)] W fun e W'=>e=pnc (plA E z i) 4/\bW w0 W'):=fun _=>zhD h hd
  clear h hd HP0 hE;go_enter Tryz.func133,Tryz.ntmps133;go_wp2_with fail;refine (HN ()).mono ?_;rintro e w1 ⟨rfl,hb⟩;exact zah rfl ⟨rfl,hb⟩
 ·rw [iN hd]
  have HN:Hid (∀_:Unit,Cl 151 #[.pointer (some ⟨b,0,none⟩)] W fun e W'=>e=.returned (.tuple #[])/\RS E z w0 W' b tv (i+1) (d+1) v L/\Fr W W' b v v):=fun _=>zhC h hlt hd hz
  have HP:Hid (∀W1,RS E z w0 W1 b tv (i+1) (d+1) v L->Cl 117 #[.pointer (some ⟨b,0,none⟩)] W1 fun e W'=>PoR E z w0 b tv (d+1) W1 v L (gN E 4 (i+1) (d+1)) e W'):=fun W1 h1=>HP0 W1 v L h1 (by omega)
  cases hr:gN E 4 (i+1) (d+1) with
  | inr q =>
   rw [hr] at HP
   show Cl 133 _ _ fun e W'=>PoR E z w0 b tv d W v L (.inr q) e W'
   clear h hd HP0 hE hr;go_enter Tryz.func133,Tryz.ntmps133;go_wp2_with fail;refine (HN ()).mono ?_;rintro e w1 ⟨rfl,h1,hf1⟩;have H1:=hO h1;clear h1 hf1 HN;go_wp2_with fail;refine (HP _ H1.out).mono ?_;rintro e w2 ⟨rfl,hb⟩;exact zah rfl ⟨rfl,hb⟩
  | inl p =>
   obtain ⟨a,ns⟩:=p;rw [hr] at HP
   show Cl 133 _ _ fun e W'=>PoR E z w0 b tv d W v L (.inl (a,ns++[nd0 op])) e W'
   have hadv:=zbN (i:=i+1) (by omega) (by omega) hr;have hln:=(zbW HE.rl (i:=i+1) (by omega) (by omega) hr).1 (by omega);have hal:=hadv.2.1;have HLv:Hid (∀W v,RS E z w0 W b tv a (d+1) v (L++ns)->Cl 152 #[.pointer (some ⟨b,0,none⟩)] W fun e W'=>e=.returned (.tuple #[])/\RS E z w0 W' b tv a d v (L++ns)/\Fr W W' b v v):=fun W v h=>zf8 h
   have HPu:Hid (∀W v,RS E z w0 W b tv a d v (L++ns)->Cl 90 #[.pointer (some ⟨b,0,none⟩),.slice (some ⟨W.heap.size,0,none⟩) 1 1] (W.alloc (.cells #[.int .i64 op,.int .i64 0,.string ⟨#[]⟩,.int .u64 0,.int .u64 0,.int .u64 0,.int .u64 0] 65)) fun e W'=>e=.returned (.tuple #[])/\∃v',RS E z w0 W' b tv a d v' ((L++ns)++[⟨op,0,⟨#[]⟩,0,0,0,0⟩])/\Fr W W' b v v'):=fun W v h=>zfJ h ⟨op,0,⟨#[]⟩,0,0,0,0⟩ (by rw [lA];omega)
   clear h hd HP0 hE hr hadv hln;go_enter Tryz.func133,Tryz.ntmps133;go_wp2_with fail;refine (HN ()).mono ?_;rintro e w1 ⟨rfl,h1,hf1⟩;have H1:=hO h1;have HF1:Hid (Fr W w1 b v v):=hf1;clear h1 hf1 HN;go_wp2_with fail;refine (HP _ H1.out).mono ?_;rintro e w2 ⟨rfl,v2,h2,hf2⟩;have H2:=hO h2;have HF2:Hid (Fr W w2 b v v2):=HF1.trans hf2;clear h2 hf2 HP H1 HF1;go_wp2_with fail;refine (HLv _ _ H2.out).mono ?_;rintro e w3 ⟨rfl,h3,hf3⟩;have H3:=hO h3;have HF3:Hid (Fr W w3 b v v2):=HF2.trans hf3;clear h3 hf3 HLv H2 HF2;go_wp2_with fail;refine (HPu _ _ H3.out).mono ?_;rintro e w4 ⟨rfl,v4,h4,hf4⟩;rw [List.append_assoc] at h4;have H4:Hid (∃v',RS E z w0 w4 b tv a d v' (L++(ns++[nd0 op]))/\Fr W w4 b v v'):=⟨v4,h4,HF3.trans hf4⟩;clear h4 hf4 HPu H3 HF3;go_wp2_with fail;go_end0
   exact ⟨rfl,H4.out⟩
theorem zcl {E:PE} (hE:OkE E) {z:Nat} {w0:World} {b:Nat} {tv:Value} {i d:Nat} (c:Int) (hc:¬c=0) (hlt:i<E.l.length) (HX0:Ct 63 E z w0 b tv (i+1) (d+1) (gN E 0 (i+1) (d+1))) (W:World) (v:Value) (L:List Nd) (h:RS E z w0 W b tv i d v L) (hL:L.length<=10027010 * i) :
  Cl 164 #[.pointer (some ⟨b,0,none⟩),.int .i64 c] W fun e W'=>PoR E z w0 b tv d W v L (rW E i d c) e W':=by
 have hlen:=hE.len;have hz:=hE.z;have H:=hO h;have HE:=hO hE;unfold rW;by_cases hd:240<=d
 ·rw [iP hd]
  have HN:Hid (∀_:Unit,Cl 151 #[.pointer (some ⟨b,0,none⟩)] W fun e W'=>e=pnc (plA E z i) 4/\bW w0 W'):=fun _=>zhD h hd
  clear h hd HX0 hE;go_enter Tryz.func164,Tryz.ntmps164;go_wp2_with fail;refine (HN ()).mono ?_;rintro e w1 ⟨rfl,hb⟩;exact zah rfl ⟨rfl,hb⟩
 ·rw [iN hd]
  have HN:Hid (∀_:Unit,Cl 151 #[.pointer (some ⟨b,0,none⟩)] W fun e W'=>e=.returned (.tuple #[])/\RS E z w0 W' b tv (i+1) (d+1) v L/\Fr W W' b v v):=fun _=>zhC h hlt hd hz
  have HP:Hid (∀W1,RS E z w0 W1 b tv (i+1) (d+1) v L->Cl 63 #[.pointer (some ⟨b,0,none⟩)] W1 fun e W'=>PoR E z w0 b tv (d+1) W1 v L (gN E 0 (i+1) (d+1)) e W'):=fun W1 h1=>HX0 W1 v L h1 (by omega)
  cases hr:gN E 0 (i+1) (d+1) with
  | inr q =>
   rw [hr] at HP
   show Cl 164 _ _ fun e W'=>PoR E z w0 b tv d W v L (.inr q) e W'
   clear h hd HX0 hE hr hc;go_enter Tryz.func164,Tryz.ntmps164;go_wp2_with fail;refine (HN ()).mono ?_;rintro e w1 ⟨rfl,h1,hf1⟩;have H1:=hO h1;clear h1 hf1 HN;go_wp2_with fail;refine (HP _ H1.out).mono ?_;rintro e w2 ⟨rfl,hb⟩;exact zah rfl ⟨rfl,hb⟩
  | inl p =>
   obtain ⟨a,ns⟩:=p;rw [hr] at HP;have hadv:=zbN (i:=i+1) (by omega) (by omega) hr;have hal:=hadv.2.1;by_cases hk:kdA E a=c
   ·have hal2:=za9 (E:=E) (i:=a) (by omega)
    have HPs:Hid (∀W v,RS E z w0 W b tv a (d+1) v (L++ns)->Cl 62 #[.pointer (some ⟨b,0,none⟩),.int .i64 c] W fun e W'=>e=.returned (.tuple #[])/\RS E z w0 W' b tv (a+1) (d+1) v (L++ns)/\Fr W W' b v v):=fun W v h=>by
     have:=zcw h hal2 hz;rw [hk] at this;exact this
    have HLv:Hid (∀W v,RS E z w0 W b tv (a+1) (d+1) v (L++ns)->Cl 152 #[.pointer (some ⟨b,0,none⟩)] W fun e W'=>e=.returned (.tuple #[])/\RS E z w0 W' b tv (a+1) d v (L++ns)/\Fr W W' b v v):=fun W v h=>zf8 h
    have HV:Hid ((if kdA E a=c then (.inl (a+1,ns):PR) else .inr (a,60))=.inl (a+1,ns)):=iP hk
    show Cl 164 _ _ fun e W'=>PoR E z w0 b tv d W v L (if kdA E a=c then .inl (a+1,ns) else .inr (a,60)) e W'
    rw [HV.out];clear h hd HX0 hE hr hadv hk HV hc;go_enter Tryz.func164,Tryz.ntmps164;go_wp2_with fail;refine (HN ()).mono ?_;rintro e w1 ⟨rfl,h1,hf1⟩;have H1:=hO h1;have HF1:Hid (Fr W w1 b v v):=hf1;clear h1 hf1 HN;go_wp2_with fail;refine (HP _ H1.out).mono ?_;rintro e w2 ⟨rfl,v2,h2,hf2⟩;have H2:=hO h2;have HF2:Hid (Fr W w2 b v v2):=HF1.trans hf2;clear h2 hf2 HP H1 HF1;go_wp2_with fail;refine (HPs _ _ H2.out).mono ?_;rintro e w3 ⟨rfl,h3,hf3⟩;have H3:=hO h3;have HF3:Hid (Fr W w3 b v v2):=HF2.trans hf3;clear h3 hf3 HPs H2 HF2;go_wp2_with fail;refine (HLv _ _ H3.out).mono ?_;rintro e w4 ⟨rfl,h4,hf4⟩;have H4:Hid (∃v',RS E z w0 w4 b tv (a+1) d v' (L++ns)/\Fr W w4 b v v'):=⟨v2,h4,HF3.trans hf4⟩;clear h4 hf4 HLv H3 HF3;go_wp2_with fail;go_end0
    exact ⟨rfl,H4.out⟩
   ·have HPs:Hid (∀W v,RS E z w0 W b tv a (d+1) v (L++ns)->Cl 62 #[.pointer (some ⟨b,0,none⟩),.int .i64 c] W fun e W'=>e=pnc (plA E z a) 60/\bW w0 W'):=fun W v h=>zjs h c hk
    have HV:Hid ((if kdA E a=c then (.inl (a+1,ns):PR) else .inr (a,60))=.inr (a,60)):=iN hk
    show Cl 164 _ _ fun e W'=>PoR E z w0 b tv d W v L (if kdA E a=c then .inl (a+1,ns) else .inr (a,60)) e W'
    rw [HV.out];clear h hd HX0 hE hr hadv hk HV hc;go_enter Tryz.func164,Tryz.ntmps164;go_wp2_with fail;refine (HN ()).mono ?_;rintro e w1 ⟨rfl,h1,hf1⟩;have H1:=hO h1;clear h1 hf1 HN;go_wp2_with fail;refine (HP _ H1.out).mono ?_;rintro e w2 ⟨rfl,v2,h2,hf2⟩;have H2:=hO h2;clear h2 hf2 HP H1;go_wp2_with fail;refine (HPs _ _ H2.out).mono ?_;rintro e w3 ⟨rfl,hb⟩;exact zah rfl ⟨rfl,hb⟩
def gS (E:PE) (i d:Nat):PR:=if bgP E i=true then bnd (gN E 5 i d) fun a ns=>ahd ns (gN E 6 a d) else .inr (i,60)
theorem zjH {E:PE} (hE:OkE E) {z:Nat} {w0:World} {b:Nat} {tv:Value} {i d:Nat} (HP0:i<E.l.length->Ct 117 E z w0 b tv (i+1) (d+1) (gN E 4 (i+1) (d+1))) (HS0:Ct 134 E z w0 b tv i d (gS E i d)):Ct 117 E z w0 b tv i d (gN E 4 i d):=by
 intro W v L h hL;obtain ⟨t,ht,hk,_,_⟩:=zav E z h.hi;have HH:Hid (∀_:Unit,Cl 33 #[.pointer (some ⟨b,0,none⟩)] W (rB W (.agg #[.int .i64 t.kd,.int .i64 t.nn,.int .i64 t.fr,.int .i64 t.en,.string t.tx,.int .u64 t.s0,.int .u64 t.s1,.int .u64 t.s2,.int .u64 t.s3]))):=fun _=>zay h t ht
 have H:=hO h;have fl0:=ziR;have HG:=hO (g4 E i d h.hi);by_cases c8:kdA E i=8
 ·have hlt:=za9 (E:=E) (i:=i) (by omega)
  have HA:Hid (∀W1,RS E z w0 W1 b tv i d v L->Cl 133 #[.pointer (some ⟨b,0,none⟩),.int .i64 12] W1 fun e W'=>PoR E z w0 b tv d W1 v L (rA E i d 12) e W'):=fun W1 h1=>zgf hE 12 hlt (HP0 hlt) W1 v L h1 hL
  have HV:Hid (gN E 4 i d=rA E i d 12):=by
   show gN E 4 i d=_
   rw [HG.out,iP (by unfold bgn;rw [c8];rfl),iP (.inl c8),show (if kdA E i=8 then (12:Int) else 13)=12 from iP c8];rfl
  rw [HV.out];generalize rA E i d 12=r at *;rw [hk.trans c8] at HH;clear h ht hk c8 HG HV HP0 HS0 hE;go_enter Tryz.func117,Tryz.ntmps117;go_wp2_with fail;refine (HH ()).mono ?_;rintro e w1 ⟨rfl,hb⟩;have H1:=hO (H.later hb);have HF1:Hid (Fr W w1 b v v):=Fr.below b v hb;clear hb HH H;go_wp2_with fail;refine (HA _ H1.out).mono ?_;rintro e w2 hp
  cases r with
  | inr q =>
   obtain ⟨rfl,hb⟩:=hp;exact zah rfl ⟨rfl,hb⟩
  | inl p =>
   obtain ⟨rfl,v2,h2,hf2⟩:=hp;have H2:Hid (∃v',RS E z w0 w2 b tv p.1 d v' (L++p.2)/\Fr W w2 b v v'):=⟨v2,h2,HF1.trans hf2⟩;clear h2 hf2;go_wp2_with fail;go_end0
   exact ⟨rfl,H2.out⟩
 by_cases c9:kdA E i=9
 ·have hlt:=za9 (E:=E) (i:=i) (by omega)
  have HA:Hid (∀W1,RS E z w0 W1 b tv i d v L->Cl 133 #[.pointer (some ⟨b,0,none⟩),.int .i64 13] W1 fun e W'=>PoR E z w0 b tv d W1 v L (rA E i d 13) e W'):=fun W1 h1=>zgf hE 13 hlt (HP0 hlt) W1 v L h1 hL
  have HV:Hid (gN E 4 i d=rA E i d 13):=by
   show gN E 4 i d=_
   rw [HG.out,iP (by unfold bgn;rw [c9];rfl),iP (.inr c9),show (if kdA E i=8 then (12:Int) else 13)=13 from iN c8];rfl
  rw [HV.out];generalize rA E i d 13=r at *;rw [hk.trans c9] at HH;clear h ht hk c9 c8 HG HV HP0 HS0 hE;go_enter Tryz.func117,Tryz.ntmps117;go_wp2_with fail;refine (HH ()).mono ?_;rintro e w1 ⟨rfl,hb⟩;have H1:=hO (H.later hb);have HF1:Hid (Fr W w1 b v v):=Fr.below b v hb;clear hb HH H;go_wp2_with fail;refine (HA _ H1.out).mono ?_;rintro e w2 hp
  cases r with
  | inr q =>
   obtain ⟨rfl,hb⟩:=hp;exact zah rfl ⟨rfl,hb⟩
  | inl p =>
   obtain ⟨rfl,v2,h2,hf2⟩:=hp;have H2:Hid (∃v',RS E z w0 w2 b tv p.1 d v' (L++p.2)/\Fr W w2 b v v'):=⟨v2,h2,HF1.trans hf2⟩;clear h2 hf2;go_wp2_with fail;go_end0
   exact ⟨rfl,H2.out⟩
 have HS:Hid (∀W1,RS E z w0 W1 b tv i d v L->Cl 134 #[.pointer (some ⟨b,0,none⟩)] W1 fun e W'=>PoR E z w0 b tv d W1 v L (gS E i d) e W'):=fun W1 h1=>HS0 W1 v L h1 hL
 have HV:Hid (gN E 4 i d=gS E i d):=by
  show gN E 4 i d=_
  have hb:bgn E i=bgP E i:=by rw [zhE,bF c8,bF c9];rfl
  rw [HG.out,hb,iN (by omega:¬(kdA E i=8∨kdA E i=9))];rfl
 rw [HV.out];have v8:(t.kd==8)=false:=by rw [hk];exact bF c8
 have v9:(t.kd==9)=false:=by rw [hk];exact bF c9
 generalize gS E i d=r at *;clear h ht hk c8 c9 HG HV HP0 HS0 hE;go_enter Tryz.func117,Tryz.ntmps117;go_wp2_with fail;refine (HH ()).mono ?_;rintro e w1 ⟨rfl,hb⟩;have H1:=hO (H.later hb);have HF1:Hid (Fr W w1 b v v):=Fr.below b v hb;clear hb HH H;go_wp2_with fail;refine (HS _ H1.out).mono ?_;rintro e w2 hp
 cases r with
 | inr q =>
  obtain ⟨rfl,hb⟩:=hp;exact zah rfl ⟨rfl,hb⟩
 | inl p =>
  obtain ⟨rfl,v2,h2,hf2⟩:=hp;have H2:Hid (∃v',RS E z w0 w2 b tv p.1 d v' (L++p.2)/\Fr W w2 b v v'):=⟨v2,h2,HF1.trans hf2⟩;clear h2 hf2;go_wp2_with fail;go_end0
  exact ⟨rfl,H2.out⟩
theorem zeG {W W':World} {k b:Nat} {t:Tk} {v v':Value} (h:TX W k t) (hf:Fr W W' b v v') (hk:k≠b) (hv:v.ownBlock≠some k):TX W' k t:=h.same (hf.block k h.lt hk hv)
theorem RS.new {E:PE} {z:Nat} {w0 W:World} {b:Nat} {tv:Value} {i d:Nat} {v:Value} {L:List Nd} (h:RS E z w0 W b tv i d v L):W.heap.size≠b/\v.ownBlock≠some W.heap.size :=
 ⟨by have:=h.x.lt;omega,fun e=>by have:=(h.o.lt _ e).2;omega⟩
theorem zgg {E:PE} {z:Nat} {w0 W:World} {b:Nat} {tv:Value} {i d:Nat} {v:Value} {L:List Nd} (h:RS E z w0 W b tv i d v L) (n:Nd) (q:Nat) (hq:W.heap.size=q) (hl:L.length+1<=2000000000000) :
  Cl 90 #[.pointer (some ⟨b,0,none⟩),.slice (some ⟨q,0,none⟩) 1 1] (W.alloc (.cells #[.int .i64 n.op,.int .i64 n.nn,.string n.tx,.int .u64 n.s0,.int .u64 n.s1,.int .u64 n.s2,.int .u64 n.s3] 65)) fun e W'=>e=.returned (.tuple #[])/\∃v',RS E z w0 W' b tv i d v' (L++[n])/\Fr W W' b v v':=by
 subst hq;exact zfJ h n hl
def imR (E:PE) (j:Nat):PR:=if kdA E j=2 then (if E.tm (tkA E j).tx then .inl (j+1,[⟨22,0,(tkA E j).tx,0,0,0,0⟩]) else .inr (j,61)) else if kdA E j=4 then (if 50<(tkA E j).nn then .inr (j,1) else .inl (j+1,[⟨23,(tkA E j).nn,⟨#[]⟩,0,0,0,0⟩])) else .inr (j,60)
theorem g6_27 (E:PE) (a d:Nat) (ha:a<=E.l.length) (hk:kdA E a=27):gN E 6 a d=bnd (imR E (a+1)) fun j ns=>ahd ns (gN E 6 j d):=by
 rw [g6 E a d ha];unfold zgG zja imR;rw [hk,iN (by decide),iN (by decide),iN (by decide),iN (by decide),iN (by decide),iN (by decide),iP rfl];by_cases k2:kdA E (a+1)=2
 ·rw [iP k2,iP k2]
  cases E.tm (tkA E (a+1)).tx <;> rfl
 ·rw [iN k2,iN k2]
  by_cases k4:kdA E (a+1)=4
  ·rw [iP k4,iP k4]
   by_cases h50:50<(tkA E (a+1)).nn
   ·rw [iP h50,iP h50];rfl
   ·rw [iN h50,iN h50];rfl
  ·rw [iN k4,iN k4];rfl
theorem g6_sf (E:PE) (a d:Nat) (ha:a<=E.l.length) (hs:sfB (kdA E a)=true) (h0:kdA E a=10∨kdA E a=11∨kdA E a=12->(tkA E a).nn=0):gN E 6 a d=ahd [⟨sfO (kdA E a),(tkA E a).nn,⟨#[]⟩,0,0,0,0⟩] (gN E 6 (a+1) d):=by
 rw [g6 E a d ha];have key:zgG E a=.inl (⟨sfO (kdA E a),(tkA E a).nn,⟨#[]⟩,0,0,0,0⟩,1):=by
  unfold zgG zja;unfold sfB at hs;simp only [Bool.or_eq_true,beq_iff_eq] at hs
  rcases hs with ((((h | h) | h) | h) | h) | h
  ·rw [h,h0 (.inl h)];rfl
  ·rw [h,h0 (.inr (.inl h))];rfl
  ·rw [h,h0 (.inr (.inr h))];rfl
  ·rw [h];rfl
  ·rw [h];rfl
  ·rw [h];rfl
 rw [key]
theorem g6_no (E:PE) (a d:Nat) (ha:a<=E.l.length) (hs:sfB (kdA E a)=false) (hk:¬kdA E a=27):gN E 6 a d=.inl (a,[]):=by
 rw [g6 E a d ha];have key:zgG E a=.inr none:=by
  unfold zgG zja;unfold sfB at hs;simp only [Bool.or_eq_false_iff,beq_eq_false_iff_ne] at hs;obtain ⟨⟨⟨⟨⟨h1,h2⟩,h3⟩,h4⟩,h5⟩,h6⟩:=hs;rw [iN h1,iN h2,iN h3,iN h4,iN h5,iN h6,iN hk]
 rw [key]
theorem zjI {E:PE} (hE:OkE E) {z:Nat} {w0:World} {b:Nat} {tv:Value} {i d:Nat}:Ct 154 E z w0 b tv i d (imR E i):=by
 intro W v L h hL;have hlen:=hE.len;have hz:=hE.z;have hi:=h.hi;obtain ⟨t,ht,hk,hpl,hta⟩:=zav E z h.hi;clear hpl;have HH:Hid (∀_:Unit,Cl 33 #[.pointer (some ⟨b,0,none⟩)] W (rB W (.agg #[.int .i64 t.kd,.int .i64 t.nn,.int .i64 t.fr,.int .i64 t.en,.string t.tx,.int .u64 t.s0,.int .u64 t.s1,.int .u64 t.s2,.int .u64 t.s3]))):=fun _=>zay h t ht
 have H:=hO h;unfold imR;by_cases k2:kdA E i=2
 ·have hlt:=za9 (E:=E) (i:=i) (by omega)
  obtain rfl:t=tkA E i:=hta hlt;have hmem:tkA E i∈E.l:=by unfold tkA;rw [gE hlt];exact List.getElem_mem hlt
  have htx:=hE.tx _ hmem;have HTm:Hid (∀W,Cl 167 #[.string (tkA E i).tx] W (rB W (.bool (T.tmB (tkA E i).tx)))):=fun W=>zjC _ (by omega) W
  have hnot:∀(x:Bool) (w:World),(Op.unary .not (.bool x)).run Tryz.prog w=.ok (.bool (!x)) w:=fun _ _=>rfl
  rw [iP k2,hE.tm];rw [hk.trans k2] at HH;have hk2:=hk.trans k2;generalize tkA E i=t at *
  cases htm:T.tmB t.tx with
  | true =>
   rw [htm] at HTm;have HPs:Hid (∀W v,RS E z w0 W b tv i d v (L++[⟨22,0,t.tx,0,0,0,0⟩])->Cl 62 #[.pointer (some ⟨b,0,none⟩),.int .i64 2] W fun e W'=>e=.returned (.tuple #[])/\RS E z w0 W' b tv (i+1) d v (L++[⟨22,0,t.tx,0,0,0,0⟩])/\Fr W W' b v v):=fun W v h=>by
    have:=zcw h hlt hz;rw [k2] at this;exact this
   have HPu:Hid (∀W v q,W.heap.size=q->RS E z w0 W b tv i d v L->Cl 90 #[.pointer (some ⟨b,0,none⟩),.slice (some ⟨q,0,none⟩) 1 1] (W.alloc (.cells #[.int .i64 22,.int .i64 0,.string t.tx,.int .u64 0,.int .u64 0,.int .u64 0,.int .u64 0] 65)) fun e W'=>e=.returned (.tuple #[])/\∃v',RS E z w0 W' b tv i d v' (L++[⟨22,0,t.tx,0,0,0,0⟩])/\Fr W W' b v v'):=fun W v q hq h=>zgg h ⟨22,0,t.tx,0,0,0,0⟩ q hq (by omega)
   show Cl 154 _ _ fun e W'=>PoR E z w0 b tv d W v L (.inl (i+1,[⟨22,0,t.tx,0,0,0,0⟩])) e W'
   clear h ht hk k2 hta hmem htx htm hk2;go_enter Tryz.func154,Tryz.ntmps154;go_wp2_with fail;refine (HH ()).mono ?_;rintro e w1 ⟨rfl,hb⟩;have H1:Hid (RS E z w0 (w1.alloc (.cells #[.int .i64 2,.int .i64 t.nn,.int .i64 t.fr,.int .i64 t.en,.string t.tx,.int .u64 t.s0,.int .u64 t.s1,.int .u64 t.s2,.int .u64 t.s3] 69)) b tv i d v L):=(H.later hb).later (zaa _ _);have HF1:Hid (Fr W (w1.alloc (.cells #[.int .i64 2,.int .i64 t.nn,.int .i64 t.fr,.int .i64 t.en,.string t.tx,.int .u64 t.s0,.int .u64 t.s1,.int .u64 t.s2,.int .u64 t.s3] 69)) b v v):=(Fr.below b v hb).trans (Fr.below b v (zaa _ _));have HT1:Hid (TX (w1.alloc (.cells #[.int .i64 2,.int .i64 t.nn,.int .i64 t.fr,.int .i64 t.en,.string t.tx,.int .u64 t.s0,.int .u64 t.s1,.int .u64 t.s2,.int .u64 t.s3] 69)) w1.heap.size ⟨2,t.nn,t.fr,t.en,t.tx,t.s0,t.s1,t.s2,t.s3⟩):=⟨heap_alloc_new w1 _⟩;have HN1:Hid (w1.heap.size≠b/\v.ownBlock≠some w1.heap.size):=(H.later hb).new;clear hb HH H;go_wp2_with fail;refine (HTm _).mono ?_;rintro e w2 ⟨rfl,hb⟩;have H2:=hO (H1.later hb);have HF2:Hid (Fr W w2 b v v):=HF1.trans (Fr.below b v hb);have HT2:=hO (HT1.below hb);clear hb H1 HF1 HT1 HTm;obtain ⟨c0,c1,c2,c3,c4,c5,c6,c7,c8⟩:=HT2.cells;go_wp2_with fail;refine (HPu _ _ _ rfl H2.out).mono ?_;rintro e w3 ⟨rfl,v3,h3,hf3⟩;have H3:=hO h3;have HF3:Hid (Fr W w3 b v v3):=HF2.trans hf3;have HT3:=hO (zeG HT2 hf3 HN1.1 HN1.2)
   clear h3 hf3 H2 HF2 HT2 HPu c0 c1 c2 c3 c4 c5 c6 c7 c8;obtain ⟨c0,c1,c2,c3,c4,c5,c6,c7,c8⟩:=HT3.cells;go_wp2_with fail;refine (HPs _ _ H3.out).mono ?_;rintro e w4 ⟨rfl,h4,hf4⟩;have H4:Hid (∃v',RS E z w0 w4 b tv (i+1) d v' (L++[⟨22,0,t.tx,0,0,0,0⟩])/\Fr W w4 b v v'):=⟨v3,h4,HF3.trans hf4⟩;clear h4 hf4 H3 HF3 HT3 HPs c0 c1 c2 c3 c4 c5 c6 c7 c8;go_wp2_with fail;go_end0
   exact ⟨rfl,H4.out⟩
  | false =>
   rw [htm] at HTm;have HRf:Hid (∀W,RS E z w0 W b tv i d v L->Cl 38 #[.pointer (some ⟨b,0,none⟩),.int .i64 61] W fun e W'=>e=pnc (plA E z i) 61/\bW W W'):=fun W h=>zbJ h 61
   show Cl 154 _ _ fun e W'=>PoR E z w0 b tv d W v L (.inr (i,61)) e W'
   clear h ht hk k2 hta hmem htx htm hk2;go_enter Tryz.func154,Tryz.ntmps154;go_wp2_with fail;refine (HH ()).mono ?_;rintro e w1 ⟨rfl,hb⟩;have H1:Hid (RS E z w0 (w1.alloc (.cells #[.int .i64 2,.int .i64 t.nn,.int .i64 t.fr,.int .i64 t.en,.string t.tx,.int .u64 t.s0,.int .u64 t.s1,.int .u64 t.s2,.int .u64 t.s3] 69)) b tv i d v L):=(H.later hb).later (zaa _ _);have HF1:Hid (Fr W (w1.alloc (.cells #[.int .i64 2,.int .i64 t.nn,.int .i64 t.fr,.int .i64 t.en,.string t.tx,.int .u64 t.s0,.int .u64 t.s1,.int .u64 t.s2,.int .u64 t.s3] 69)) b v v):=(Fr.below b v hb).trans (Fr.below b v (zaa _ _));have HT1:Hid (TX (w1.alloc (.cells #[.int .i64 2,.int .i64 t.nn,.int .i64 t.fr,.int .i64 t.en,.string t.tx,.int .u64 t.s0,.int .u64 t.s1,.int .u64 t.s2,.int .u64 t.s3] 69)) w1.heap.size ⟨2,t.nn,t.fr,t.en,t.tx,t.s0,t.s1,t.s2,t.s3⟩):=⟨heap_alloc_new w1 _⟩;have HN1:Hid (w1.heap.size≠b/\v.ownBlock≠some w1.heap.size):=(H.later hb).new;clear hb HH H;go_wp2_with fail;refine (HTm _).mono ?_;rintro e w2 ⟨rfl,hb⟩;have H2:=hO (H1.later hb);clear hb H1 HF1 HT1 HTm;go_wp2_with fail;refine (HRf _ H2.out).mono ?_;rintro e w3 ⟨rfl,hb⟩;exact zah rfl ⟨rfl,H2.bl.trans (hb.mono H2.bl.size)⟩
 rw [iN k2];by_cases k4:kdA E i=4
 ·have hlt:=za9 (E:=E) (i:=i) (by omega)
  obtain rfl:t=tkA E i:=hta hlt;rw [iP k4];rw [hk.trans k4] at HH;have hk2:=hk.trans k4;generalize tkA E i=t at *;by_cases h50:50<t.nn
  ·have HRf:Hid (∀W,RS E z w0 W b tv i d v L->Cl 38 #[.pointer (some ⟨b,0,none⟩),.int .i64 1] W fun e W'=>e=pnc (plA E z i) 1/\bW W W'):=fun W h=>zbJ h 1
   rw [iP h50];clear h ht hk k2 hta k4 hk2;go_enter Tryz.func154,Tryz.ntmps154;go_wp2_with fail;refine (HH ()).mono ?_;rintro e w1 ⟨rfl,hb⟩;have H1:Hid (RS E z w0 (w1.alloc (.cells #[.int .i64 4,.int .i64 t.nn,.int .i64 t.fr,.int .i64 t.en,.string t.tx,.int .u64 t.s0,.int .u64 t.s1,.int .u64 t.s2,.int .u64 t.s3] 69)) b tv i d v L):=(H.later hb).later (zaa _ _);have HF1:Hid (Fr W (w1.alloc (.cells #[.int .i64 4,.int .i64 t.nn,.int .i64 t.fr,.int .i64 t.en,.string t.tx,.int .u64 t.s0,.int .u64 t.s1,.int .u64 t.s2,.int .u64 t.s3] 69)) b v v):=(Fr.below b v hb).trans (Fr.below b v (zaa _ _));have HT1:Hid (TX (w1.alloc (.cells #[.int .i64 4,.int .i64 t.nn,.int .i64 t.fr,.int .i64 t.en,.string t.tx,.int .u64 t.s0,.int .u64 t.s1,.int .u64 t.s2,.int .u64 t.s3] 69)) w1.heap.size ⟨4,t.nn,t.fr,t.en,t.tx,t.s0,t.s1,t.s2,t.s3⟩):=⟨heap_alloc_new w1 _⟩;have HN1:Hid (w1.heap.size≠b/\v.ownBlock≠some w1.heap.size):=(H.later hb).new;clear hb HH H;go_wp2_with fail;refine (HRf _ H1.out).mono ?_;rintro e w3 ⟨rfl,hb⟩;exact zah rfl ⟨rfl,H1.bl.trans (hb.mono H1.bl.size)⟩
  ·have HPs:Hid (∀W v,RS E z w0 W b tv i d v (L++[⟨23,t.nn,⟨#[]⟩,0,0,0,0⟩])->Cl 62 #[.pointer (some ⟨b,0,none⟩),.int .i64 4] W fun e W'=>e=.returned (.tuple #[])/\RS E z w0 W' b tv (i+1) d v (L++[⟨23,t.nn,⟨#[]⟩,0,0,0,0⟩])/\Fr W W' b v v):=fun W v h=>by
    have:=zcw h hlt hz;rw [k4] at this;exact this
   have HPu:Hid (∀W v q,W.heap.size=q->RS E z w0 W b tv i d v L->Cl 90 #[.pointer (some ⟨b,0,none⟩),.slice (some ⟨q,0,none⟩) 1 1] (W.alloc (.cells #[.int .i64 23,.int .i64 t.nn,.string ⟨#[]⟩,.int .u64 0,.int .u64 0,.int .u64 0,.int .u64 0] 65)) fun e W'=>e=.returned (.tuple #[])/\∃v',RS E z w0 W' b tv i d v' (L++[⟨23,t.nn,⟨#[]⟩,0,0,0,0⟩])/\Fr W W' b v v'):=fun W v q hq h=>zgg h ⟨23,t.nn,⟨#[]⟩,0,0,0,0⟩ q hq (by omega)
   rw [iN h50];clear h ht hk k2 hta k4 hk2;go_enter Tryz.func154,Tryz.ntmps154;go_wp2_with fail;refine (HH ()).mono ?_;rintro e w1 ⟨rfl,hb⟩;have H1:Hid (RS E z w0 (w1.alloc (.cells #[.int .i64 4,.int .i64 t.nn,.int .i64 t.fr,.int .i64 t.en,.string t.tx,.int .u64 t.s0,.int .u64 t.s1,.int .u64 t.s2,.int .u64 t.s3] 69)) b tv i d v L):=(H.later hb).later (zaa _ _);have HF1:Hid (Fr W (w1.alloc (.cells #[.int .i64 4,.int .i64 t.nn,.int .i64 t.fr,.int .i64 t.en,.string t.tx,.int .u64 t.s0,.int .u64 t.s1,.int .u64 t.s2,.int .u64 t.s3] 69)) b v v):=(Fr.below b v hb).trans (Fr.below b v (zaa _ _));have HT1:Hid (TX (w1.alloc (.cells #[.int .i64 4,.int .i64 t.nn,.int .i64 t.fr,.int .i64 t.en,.string t.tx,.int .u64 t.s0,.int .u64 t.s1,.int .u64 t.s2,.int .u64 t.s3] 69)) w1.heap.size ⟨4,t.nn,t.fr,t.en,t.tx,t.s0,t.s1,t.s2,t.s3⟩):=⟨heap_alloc_new w1 _⟩;have HN1:Hid (w1.heap.size≠b/\v.ownBlock≠some w1.heap.size):=(H.later hb).new;clear hb HH H;go_wp2_with fail;refine (HPu _ _ _ (sA _ _) H1.out).mono ?_;rintro e w3 ⟨rfl,v3,h3,hf3⟩;have H3:=hO h3;have HF3:Hid (Fr W w3 b v v3):=HF1.trans hf3;have HT3:=hO (zeG HT1 hf3 HN1.1 HN1.2);clear h3 hf3 H1 HF1 HT1 HPu;obtain ⟨c0,c1,c2,c3,c4,c5,c6,c7,c8⟩:=HT3.cells;go_wp2_with fail;refine (HPs _ _ H3.out).mono ?_;rintro e w4 ⟨rfl,h4,hf4⟩
   have H4:Hid (∃v',RS E z w0 w4 b tv (i+1) d v' (L++[⟨23,t.nn,⟨#[]⟩,0,0,0,0⟩])/\Fr W w4 b v v'):=⟨v3,h4,HF3.trans hf4⟩;clear h4 hf4 H3 HF3 HT3 HPs c0 c1 c2 c3 c4 c5 c6 c7 c8;go_wp2_with fail;go_end0
   exact ⟨rfl,H4.out⟩
 ·have HRf:Hid (∀W,RS E z w0 W b tv i d v L->Cl 38 #[.pointer (some ⟨b,0,none⟩),.int .i64 60] W fun e W'=>e=pnc (plA E z i) 60/\bW W W'):=fun W h=>zbJ h 60
  rw [iN k4];have v2:(t.kd==2)=false:=by rw [hk];exact bF k2
  have v4:(t.kd==4)=false:=by rw [hk];exact bF k4
  clear h ht hk k2 hta k4;go_enter Tryz.func154,Tryz.ntmps154;go_wp2_with fail;refine (HH ()).mono ?_;rintro e w1 ⟨rfl,hb⟩;have H1:Hid (RS E z w0 (w1.alloc (.cells #[.int .i64 t.kd,.int .i64 t.nn,.int .i64 t.fr,.int .i64 t.en,.string t.tx,.int .u64 t.s0,.int .u64 t.s1,.int .u64 t.s2,.int .u64 t.s3] 69)) b tv i d v L):=(H.later hb).later (zaa _ _);have HF1:Hid (Fr W (w1.alloc (.cells #[.int .i64 t.kd,.int .i64 t.nn,.int .i64 t.fr,.int .i64 t.en,.string t.tx,.int .u64 t.s0,.int .u64 t.s1,.int .u64 t.s2,.int .u64 t.s3] 69)) b v v):=(Fr.below b v hb).trans (Fr.below b v (zaa _ _));have HT1:Hid (TX (w1.alloc (.cells #[.int .i64 t.kd,.int .i64 t.nn,.int .i64 t.fr,.int .i64 t.en,.string t.tx,.int .u64 t.s0,.int .u64 t.s1,.int .u64 t.s2,.int .u64 t.s3] 69)) w1.heap.size t):=⟨heap_alloc_new w1 _⟩;have HN1:Hid (w1.heap.size≠b/\v.ownBlock≠some w1.heap.size):=(H.later hb).new;clear hb HH H;go_wp2_with fail;refine (HRf _ H1.out).mono ?_;rintro e w3 ⟨rfl,hb⟩;exact zah rfl ⟨rfl,H1.bl.trans (hb.mono H1.bl.size)⟩
def gP (E:PE) (i d:Nat):PR:=if bgP E i=true then gN E 5 i d else .inr (i,60)
theorem gS_eq (E:PE) (i d:Nat):gS E i d=bnd (gP E i d) fun a ns=>ahd ns (gN E 6 a d):=by
 unfold gS gP
 split <;> rfl
theorem zfh {E:PE} {i:Nat} (h:bgP E i=true):i<E.l.length:=zc6 (by rw [zhE,h];simp)
theorem zjJ {E:PE} (hE:OkE E) {z:Nat} {w0:World} {b:Nat} {tv:Value} {i d:Nat} (HP0:Ct 153 E z w0 b tv i d (gP E i d)):Ct 134 E z w0 b tv i d (gS E i d):=by
 intro W v L h hL;have hi:=h.hi;have hlen:=hE.len;have hz:=hE.z;have HE:=hO hE;have HC:Hid (∀_:Unit,Cl 153 #[.pointer (some ⟨b,0,none⟩)] W fun e W'=>PoR E z w0 b tv d W v L (gP E i d) e W'):=fun _=>HP0 W v L h hL
 have HG:=hO (gS_eq E i d);have HB:=(show Hid (∀a ns,gP E i d=.inl (a,ns)->i<a/\a<=E.l.length/\ns.length<=10027010 * (a - i)) from fun a ns hr=>by
  unfold gP at hr
  split at hr
  ·next hb =>
   have hlt:=zfh hb;have h1:=zbN hi (fun _=>hlt) hr;have h2:=zbW hE.rl hi (fun _=>hlt) hr;exact ⟨h1.2.2 (by omega),h1.2.1,h2.2⟩
  ·cases hr)
 clear h hE HP0
 cases hr:gP E i d with
 | inr q =>
  rw [hr] at HC HG;have HV:Hid (gS E i d=.inr q):=HG.out;rw [HV.out];clear HG hr HB;go_enter Tryz.func134,Tryz.ntmps134;go_wp2_with fail;refine (HC ()).mono ?_;rintro e w1 ⟨rfl,hb⟩;exact zah rfl ⟨rfl,hb⟩
 | inl p =>
  obtain ⟨a,ns⟩:=p;obtain ⟨hia,hal,hlenN⟩:=HB a ns hr;rw [hr] at HC HG;have HV:Hid (gS E i d=ahd ns (gN E 6 a d)):=HG.out;generalize gS E i d=R0 at *;clear HG hr HB;go_enter Tryz.func134,Tryz.ntmps134;go_wp2_with fail;refine (HC ()).mono ?_;rintro e w1 ⟨rfl,v1,h1,hf1⟩;have H1:=hO h1;have HF1:Hid (Fr W w1 b v v1):=hf1;obtain ⟨v0,hv0⟩:∃u,u=v:=⟨_,rfl⟩;rw [<-hv0] at HF1;clear HC h1 hf1;go_wp2_with fail;go_loopw [7] (fun _ wr=>∃(a:Nat) (v:Value) (M:List Nd),i<a/\a<=E.l.length/\(L++M).length<=10027010 * a/\Hid (RS E z w0 wr b tv a d v (L++M))/\Hid (Fr W wr b v0 v)/\Hid (R0=ahd M (gN E 6 a d))) (fun _ wr=>E.l.length - nxt b wr)
  case atStart=>exact ⟨a,v1,ns,hia,hal,by rw [lA];omega,H1,HF1,HV⟩
  case round =>
   obtain ⟨a,v,M,ha1,ha2,hlm,HW,HFW,HR⟩:=hrel;clear H1 HF1 HV hia hal hlenN;obtain ⟨t,ht,hk,hpl,hta⟩:=zav E z ha2;clear hpl;have HH:Hid (∀_:Unit,Cl 33 #[.pointer (some ⟨b,0,none⟩)] wr (rB wr (.agg #[.int .i64 t.kd,.int .i64 t.nn,.int .i64 t.fr,.int .i64 t.en,.string t.tx,.int .u64 t.s0,.int .u64 t.s1,.int .u64 t.s2,.int .u64 t.s3]))):=fun _=>zay HW t ht
   by_cases k27:kdA E a=27
   ·have hlt:=za9 (E:=E) (i:=a) (by omega)
    have HV:Hid (R0=ahd M (bnd (imR E (a+1)) fun j ns=>ahd ns (gN E 6 j d))):=by
     show R0=_
     rw [HR.out,g6_27 E a d ha2 k27]
    have HI:Hid (∀W v,RS E z w0 W b tv (a+1) d v (L++M)->Cl 154 #[.pointer (some ⟨b,0,none⟩)] W fun e W'=>PoR E z w0 b tv d W v (L++M) (imR E (a+1)) e W'):=fun W v h=>zjI HE.out W v _ h (by omega)
    have HPs:Hid (∀W v,RS E z w0 W b tv a d v (L++M)->Cl 62 #[.pointer (some ⟨b,0,none⟩),.int .i64 27] W fun e W'=>e=.returned (.tuple #[])/\RS E z w0 W' b tv (a+1) d v (L++M)/\Fr W W' b v v):=fun W v h=>by
     have:=zcw h hlt hz;rw [k27] at this;exact this
    have HJ:=(show Hid (∀j ns,imR E (a+1)=.inl (j,ns)->j=a+2/\j<=E.l.length/\ns.length=1) from fun j ns hj=>by
     unfold imR at hj
     split at hj
     ·next k2 =>
      have:=za9 (E:=E) (i:=a+1) (by omega)
      split at hj
      ·cases hj;exact ⟨rfl,by omega,rfl⟩
      ·cases hj
     ·split at hj
      ·next k4 =>
       have:=za9 (E:=E) (i:=a+1) (by omega)
       split at hj
       ·cases hj
       ·cases hj;exact ⟨rfl,by omega,rfl⟩
      ·cases hj)
    rw [hk.trans k27] at HH;clear HR k27 ht hk hta;go_wp2_with fail;refine (HH ()).mono ?_;rintro e w1 ⟨rfl,hb⟩;have H1:Hid (RS E z w0 (w1.alloc (.cells #[.int .i64 27,.int .i64 t.nn,.int .i64 t.fr,.int .i64 t.en,.string t.tx,.int .u64 t.s0,.int .u64 t.s1,.int .u64 t.s2,.int .u64 t.s3] 69)) b tv a d v (L++M)):=(HW.later hb).later (zaa _ _);have HF1:Hid (Fr W (w1.alloc (.cells #[.int .i64 27,.int .i64 t.nn,.int .i64 t.fr,.int .i64 t.en,.string t.tx,.int .u64 t.s0,.int .u64 t.s1,.int .u64 t.s2,.int .u64 t.s3] 69)) b v0 v):=HFW.trans ((Fr.below b v hb).trans (Fr.below b v (zaa _ _)));have HNx:Hid (nxt b wr=a):=HW.nx;clear hb HH HW HFW;go_wp2_with fail;refine (HPs _ _ H1.out).mono ?_;rintro e w2 ⟨rfl,h2,hf2⟩;have H2:=hO h2;have HF2:Hid (Fr W w2 b v0 v):=HF1.trans hf2;clear h2 hf2 H1 HF1 HPs;go_wp2_with fail;refine (HI _ _ H2.out).mono ?_;rintro e w3 hp
    cases hr:imR E (a+1) with
    | inr q =>
     rw [hr] at hp HV;obtain ⟨rfl,hb⟩:=hp;exact zah (P:=Tryz.prog) (fn:=Tryz.f134) rfl (by subst hv0;show PoR E z w0 b tv d W _ L R0 _ _;rw [HV.out];exact ⟨rfl,hb⟩)
    | inl p =>
     obtain ⟨j,ns2⟩:=p;obtain ⟨hj1,hj2,hj3⟩:=HJ j ns2 hr;rw [hr] at hp HV;obtain ⟨rfl,v3,h3,hf3⟩:=hp;have H3:Hid (RS E z w0 w3 b tv j d v3 (L++(M++ns2))):=by rw [<-List.append_assoc];exact h3
     have HF3:Hid (Fr W w3 b v0 v3):=HF2.trans hf3;have HV3:Hid (R0=ahd (M++ns2) (gN E 6 j d)):=by
      show R0=_
      rw [HV.out,<-zcs];rfl
     clear h3 hf3 H2 HF2 HI HV HJ hr;go_wp2_with fail;go_roundw
     case rel=>exact ⟨j,v3,_,by omega,hj2,by rw [<-List.append_assoc,lA];omega,H3,HF3,HV3⟩
     case measure=>rw [HNx.out,H3.nx];omega
   ·have HSf:Hid (∀W,Cl 155 #[.int .i64 t.kd] W (rU W (.tuple #[.int .i64 (sfO t.kd),.bool (sfB t.kd)]))):=fun W=>zf9 t.kd W
    have hnot:∀(x:Bool) (w:World),(Op.unary .not (.bool x)).run Tryz.prog w=.ok (.bool (!x)) w:=fun _ _=>rfl
    have v27:(t.kd==27)=false:=by rw [hk];exact bF k27
    cases hs:sfB t.kd with
    | false =>
     have HV:Hid (R0=.inl (a,M)):=by
      show R0=_
      rw [HR.out,g6_no E a d ha2 (by rw [<-hk];exact hs) k27]
      show Sum.inl (a,M++[])=_
      rw [List.append_nil]
     rw [hs] at HSf;clear HR k27 ht hk hta hs;go_wp2_with fail;refine (HH ()).mono ?_;rintro e w1 ⟨rfl,hb⟩;have H1:Hid (RS E z w0 (w1.alloc (.cells #[.int .i64 t.kd,.int .i64 t.nn,.int .i64 t.fr,.int .i64 t.en,.string t.tx,.int .u64 t.s0,.int .u64 t.s1,.int .u64 t.s2,.int .u64 t.s3] 69)) b tv a d v (L++M)):=(HW.later hb).later (zaa _ _);have HF1:Hid (Fr W (w1.alloc (.cells #[.int .i64 t.kd,.int .i64 t.nn,.int .i64 t.fr,.int .i64 t.en,.string t.tx,.int .u64 t.s0,.int .u64 t.s1,.int .u64 t.s2,.int .u64 t.s3] 69)) b v0 v):=HFW.trans ((Fr.below b v hb).trans (Fr.below b v (zaa _ _)));clear hb HH HW HFW;go_wp2_with fail;refine (HSf _).mono ?_;rintro e w2 ⟨rfl,rfl⟩;go_wp2_with fail
     first | go_end0 | refine bodyPost_ret (results_none rfl _ _ _) rfl ?_
     subst hv0
     show PoR E z w0 b tv d W _ L R0 _ _
     rw [HV.out];exact ⟨rfl,_,H1.out,HF1.out⟩
    | true =>
     have hlt:a<E.l.length:=za9 (E:=E) (i:=a) (fun q=>by rw [hk,q] at hs;exact absurd hs (by decide));obtain rfl:t=tkA E a:=hta hlt;have hmem:tkA E a∈E.l:=by unfold tkA;rw [gE hlt];exact List.getElem_mem hlt
     have HV:Hid (R0=ahd (M++[⟨sfO (tkA E a).kd,(tkA E a).nn,⟨#[]⟩,0,0,0,0⟩]) (gN E 6 (a+1) d)):=by
      show R0=_
      rw [HR.out,g6_sf E a d ha2 (by rw [<-hk];exact hs) (by rw [<-hk];exact HE.n0 _ hmem),zcs,hk]
     rw [hs] at HSf;have HPs:Hid (∀W v,RS E z w0 W b tv a d v (L++M)->Cl 62 #[.pointer (some ⟨b,0,none⟩),.int .i64 (tkA E a).kd] W fun e W'=>e=.returned (.tuple #[])/\RS E z w0 W' b tv (a+1) d v (L++M)/\Fr W W' b v v):=fun W v h=>by
      rw [hk];exact zcw h hlt hz
     clear HR k27 ht hta hs hmem hk;generalize tkA E a=t at *;have HPu:Hid (∀W v q,W.heap.size=q->RS E z w0 W b tv (a+1) d v (L++M)->Cl 90 #[.pointer (some ⟨b,0,none⟩),.slice (some ⟨q,0,none⟩) 1 1] (W.alloc (.cells #[.int .i64 (sfO t.kd),.int .i64 t.nn,.string ⟨#[]⟩,.int .u64 0,.int .u64 0,.int .u64 0,.int .u64 0] 65)) fun e W'=>e=.returned (.tuple #[])/\∃v',RS E z w0 W' b tv (a+1) d v' ((L++M)++[⟨(sfO t.kd),t.nn,⟨#[]⟩,0,0,0,0⟩])/\Fr W W' b v v'):=fun W v q hq h=>zgg h ⟨sfO t.kd,t.nn,⟨#[]⟩,0,0,0,0⟩ q hq (by omega)
     generalize sfO t.kd=op at *;go_wp2_with fail;refine (HH ()).mono ?_;rintro e w1 ⟨rfl,hb⟩;have H1:Hid (RS E z w0 (w1.alloc (.cells #[.int .i64 t.kd,.int .i64 t.nn,.int .i64 t.fr,.int .i64 t.en,.string t.tx,.int .u64 t.s0,.int .u64 t.s1,.int .u64 t.s2,.int .u64 t.s3] 69)) b tv a d v (L++M)):=(HW.later hb).later (zaa _ _);have HF1:Hid (Fr W (w1.alloc (.cells #[.int .i64 t.kd,.int .i64 t.nn,.int .i64 t.fr,.int .i64 t.en,.string t.tx,.int .u64 t.s0,.int .u64 t.s1,.int .u64 t.s2,.int .u64 t.s3] 69)) b v0 v):=HFW.trans ((Fr.below b v hb).trans (Fr.below b v (zaa _ _)));have HT1:Hid (TX (w1.alloc (.cells #[.int .i64 t.kd,.int .i64 t.nn,.int .i64 t.fr,.int .i64 t.en,.string t.tx,.int .u64 t.s0,.int .u64 t.s1,.int .u64 t.s2,.int .u64 t.s3] 69)) w1.heap.size t):=⟨heap_alloc_new w1 _⟩;have HN1:Hid (w1.heap.size≠b/\v.ownBlock≠some w1.heap.size):=(HW.later hb).new;have HNx:Hid (nxt b wr=a):=HW.nx;clear hb HH HW HFW;go_wp2_with fail;refine (HSf _).mono ?_;rintro e w2 ⟨rfl,rfl⟩;clear HSf;go_wp2_with fail;refine (HPs _ _ H1.out).mono ?_;rintro e w3 ⟨rfl,h3,hf3⟩;have H3:=hO h3;have HF3:Hid (Fr W w3 b v0 v):=HF1.trans hf3;have HT3:=hO (zeG HT1 hf3 HN1.1 HN1.2);clear h3 hf3 H1 HF1 HT1 HPs;obtain ⟨c0,c1,c2,c3,c4,c5,c6,c7,c8⟩:=HT3.cells;go_wp2_with fail;refine (HPu _ _ _ rfl H3.out).mono ?_;rintro e w4 ⟨rfl,v4,h4,hf4⟩
     have H4:Hid (RS E z w0 w4 b tv (a+1) d v4 (L++(M++[⟨op,t.nn,⟨#[]⟩,0,0,0,0⟩]))):=by rw [<-List.append_assoc];exact h4
     have HF4:Hid (Fr W w4 b v0 v4):=HF3.trans hf4;clear h4 hf4 H3 HF3 HT3 HPu c0 c1 c2 c3 c4 c5 c6 c7 c8;go_wp2_with fail;go_roundw
     case rel=>exact ⟨a+1,v4,_,by omega,by omega,by rw [<-List.append_assoc,lA,List.length_singleton];omega,H4,HF4,HV⟩
     case measure=>rw [HNx.out,H4.nx];omega
end Go.Proofs.YtkihfkcmcdiajabGreatDoor.N
