import Derived.Lib.ConvBytes
import Derived.Test.YtkihfkcmcdiajabGreatDoorPo08
set_option maxRecDepth 100000
set_option maxHeartbeats 8000000
namespace Go.Proofs.YtkihfkcmcdiajabGreatDoor.N
open Go.RowKit
theorem zjK {E:PE} (hE:OkE E) {i d a:Nat} {c:Int} {ms:List Nd} (hc:¬c=0) (hlt:i<E.l.length) (h:rW E i d c=.inl (a,ms)):i<a/\a<=E.l.length/\ms.length<=10027010 * (a - i):=by
 unfold rW at h
 split at h
 ·cases h
 ·obtain ⟨a1,ns,h1,h2⟩:=zaO h
  have h3:=zbN (i:=i+1) (by omega) (by omega) h1;have h4:=(zbW hE.rl (i:=i+1) (by omega) (by omega) h1).2
  split at h2
  ·next hk =>
   have:=za9 (E:=E) (i:=a1) (by omega)
   cases h2
   exact ⟨by omega,by omega,by omega⟩
  ·cases h2
theorem zfK {E:PE} {i d:Nat} (hi:i<E.l.length) {c:Int} {post:List Nd} (h:zbw E i=.inr (c,post)):gN E 5 i d=bnd (rW E i d c) fun a ms=>.inl (a,ms++post):=by
 rw [g5 E i d hi,h];unfold rW;dsimp only;by_cases hd:240<=d
 ·rw [iP hd,iP hd];rfl
 ·rw [iN hd,iN hd]
  cases gN E 0 (i+1) (d+1) with
  | inr q=>rfl
  | inl p =>
   show (if kdA E p.1=c then (.inl (p.1+1,p.2++post):PR) else .inr (p.1,60))=bnd (if kdA E p.1=c then .inl (p.1+1,p.2) else .inr (p.1,60)) _
   split <;> rfl
def brR (E:PE) (i d:Nat):PR:=if kdA E (i+1)=20 then .inl (i+2,[nd0 17]) else bnd (rW E i d 20) fun a ms=>.inl (a,ms++[nd0 18])
theorem zoi {E:PE} {i d:Nat} (hi:i<E.l.length) (hk:kdA E i=19):gN E 5 i d=brR E i d:=by
 have ht:(tkA E i).kd=19:=by
  unfold tkA;unfold kdA at hk;rw [gE hi] at hk ⊢;exact hk
 unfold brR;by_cases h:kdA E (i+1)=20
 ·rw [iP h,g5 E i d hi]
  have:zbw E i=.inl ([nd0 17],2):=by unfold zbw zb2;rw [ht,h];rfl
  rw [this]
 ·rw [iN h]
  exact zfK hi (by unfold zbw zb2;rw [ht,iN (by decide),iN (by decide),iN (by decide),iN (by decide),iN (by decide),iN (by decide),iN (by decide),iN (by decide),iP rfl,iN h])
theorem zc4 {E:PE} {i:Nat} (hi:i<E.l.length):(tkA E i).kd=kdA E i:=by
 unfold tkA kdA;rw [gE hi];rfl
theorem zlT (ss:List R.zaY) (h:∀s∈ss,1<=s.length):0<(R.zgy ss).length:=by
 unfold R.zgy
 split
 ·decide
 ·next h0 =>
  cases ss with
  | nil=>exact absurd rfl h0
  | cons s l =>
   have h1:=h s (List.mem_cons_self);have key:∀k,0<(R.zdG (s::l) (k+1)).length:=by
    intro k
    induction k with
    | zero =>
     rw [R.zcN,lA];have:0<(R.ptI (s::l) 0).length:=by
      unfold R.ptI
      show 0<(R.zcx s s.length++_).length
      rw [lA];have:0<(R.zcx s s.length).length:=by
       cases s with
       | nil=>exact absurd h1 (by decide)
       | cons p r =>
        have key2:∀k,0<(R.zcx (p::r) (k+1)).length:=by
         intro k
         induction k with
         | zero=>rw [R.zcM,lA];unfold R.ndI;show 0<_+(_::_:List R.Nd).length;rw [List.length_cons];omega
         | succ k ih=>rw [R.zcM,lA];omega
        exact key2 r.length
      omega
     omega
    | succ k ih=>rw [R.zcN,lA];omega
   exact key l.length
theorem zjL (t:Tk):0<(lfN t).length:=by
 unfold lfN
 split
 ·split <;> simp
 ·split
  ·simp
  ·split
   ·unfold rnP;rw [List.length_map];exact zlT _ fun s hs=>(R.zdw _ _ s hs).2.1
   ·split
    ·simp
    ·split
     ·simp
     ·split <;> simp
theorem zjM (t:Tk):(lfN t).length+1<=10027010:=by
 unfold lfN
 split
 ·split <;> simp
 ·split
  ·simp
  ·split
   ·exact zjE _ _
   ·split
    ·simp
    ·split
     ·simp
     ·split <;> simp
theorem zfL {t:Tk} {k2:Int} (hk:t.kd=2∨t.kd=3∨t.kd=28∨t.kd=5∨t.kd=18∨t.kd=29∨t.kd=30∨t.kd=1):zb2 rnP t k2=.inl (lfN t,1):=by
 unfold zb2 lfN
 rcases hk with h | h | h | h | h | h | h | h <;> rw [h] <;> rfl
theorem zjN {E:PE} (hE:OkE E) {z:Nat} {w0:World} {b:Nat} {tv:Value} {i d:Nat} (hk:kdA E i=19) (HX0:Ct 63 E z w0 b tv (i+1) (d+1) (gN E 0 (i+1) (d+1))):Ct 165 E z w0 b tv i d (brR E i d):=by
 intro W v L h hL;have hlen:=hE.len;have hz:=hE.z;have hlt:=za9 (E:=E) (i:=i) (by omega);have H:=hO h;have HE:=hO hE;have HB:Hid (∀_:Unit,Cl 34 #[.pointer (some ⟨b,0,none⟩)] W (rB W (.int .i64 (kdA E (i+1))))):=fun _=>zfb h hlt hz
 unfold brR;by_cases h20:kdA E (i+1)=20
 ·have hlt2:=za9 (E:=E) (i:=i+1) (by omega)
  have HP1:Hid (∀W v,RS E z w0 W b tv i d v L->Cl 62 #[.pointer (some ⟨b,0,none⟩),.int .i64 19] W fun e W'=>e=.returned (.tuple #[])/\RS E z w0 W' b tv (i+1) d v L/\Fr W W' b v v):=fun W v h=>by
   have:=zcw h hlt hz;rw [hk] at this;exact this
  have HP2:Hid (∀W v,RS E z w0 W b tv (i+1) d v L->Cl 62 #[.pointer (some ⟨b,0,none⟩),.int .i64 20] W fun e W'=>e=.returned (.tuple #[])/\RS E z w0 W' b tv ((i+1)+1) d v L/\Fr W W' b v v):=fun W v h=>by
   have:=zcw h hlt2 hz;rw [h20] at this;exact this
  have HPu:Hid (∀W v q,W.heap.size=q->RS E z w0 W b tv (i+1+1) d v L->Cl 90 #[.pointer (some ⟨b,0,none⟩),.slice (some ⟨q,0,none⟩) 1 1] (W.alloc (.cells #[.int .i64 17,.int .i64 0,.string ⟨#[]⟩,.int .u64 0,.int .u64 0,.int .u64 0,.int .u64 0] 65)) fun e W'=>e=.returned (.tuple #[])/\∃v',RS E z w0 W' b tv (i+1+1) d v' (L++[⟨17,0,⟨#[]⟩,0,0,0,0⟩])/\Fr W W' b v v'):=fun W v q hq h=>zgg h (nd0 17) q hq (by omega)
  rw [iP h20];rw [h20] at HB;clear h hk h20 HX0 hE;go_enter Tryz.func165,Tryz.ntmps165;go_wp2_with fail;refine (HB ()).mono ?_;rintro e w1 ⟨rfl,hb⟩;have H1:=hO (H.later hb);have HF1:Hid (Fr W w1 b v v):=Fr.below b v hb;clear hb HB H;go_wp2_with fail;refine (HP1 _ _ H1.out).mono ?_;rintro e w2 ⟨rfl,h2,hf2⟩;have H2:=hO h2;have HF2:Hid (Fr W w2 b v v):=HF1.trans hf2;clear h2 hf2 H1 HF1 HP1;go_wp2_with fail;refine (HP2 _ _ H2.out).mono ?_;rintro e w3 ⟨rfl,h3,hf3⟩;have H3:=hO h3;have HF3:Hid (Fr W w3 b v v):=HF2.trans hf3;clear h3 hf3 H2 HF2 HP2;go_wp2_with fail;refine (HPu _ _ _ rfl H3.out).mono ?_;rintro e w4 ⟨rfl,v4,h4,hf4⟩;have H4:Hid (∃v',RS E z w0 w4 b tv (i+2) d v' (L++[nd0 17])/\Fr W w4 b v v'):=⟨v4,h4,HF3.trans hf4⟩;clear h4 hf4 H3 HF3 HPu;go_wp2_with fail
  first | go_end0 | refine bodyPost_ret (results_none rfl _ _ _) rfl ?_
  exact ⟨rfl,H4.out⟩
 ·have t1:(kdA E (i+1)==20)=false:=bF h20
  have HWi:Hid (∀W v,RS E z w0 W b tv i d v L->Cl 164 #[.pointer (some ⟨b,0,none⟩),.int .i64 20] W fun e W'=>PoR E z w0 b tv d W v L (rW E i d 20) e W'):=fun W v h=>zcl hE 20 (by omega) hlt HX0 W v L h hL
  have HBd:=(show Hid _ from fun a ms=>zjK (a:=a) (ms:=ms) hE (i:=i) (d:=d) (c:=20) (by omega) hlt);rw [iN h20];generalize rW E i d 20=r at *;generalize kdA E (i+1)=k2 at *;clear h hk h20 HX0 hE
  cases r with
  | inr q =>
   show Cl 165 _ _ fun e W'=>PoR E z w0 b tv d W v L (.inr q) e W'
   go_enter Tryz.func165,Tryz.ntmps165;go_wp2_with fail;refine (HB ()).mono ?_;rintro e w1 ⟨rfl,hb⟩;have H1:=hO (H.later hb);clear hb HB H;go_wp2_with fail;refine (HWi _ _ H1.out).mono ?_;rintro e w2 ⟨rfl,hb⟩;exact zah rfl ⟨rfl,hb⟩
  | inl p =>
   obtain ⟨a,ms⟩:=p;obtain ⟨b1,b2,b3⟩:=HBd a ms rfl
   show Cl 165 _ _ fun e W'=>PoR E z w0 b tv d W v L (.inl (a,ms++[nd0 18])) e W'
   have HPu:Hid (∀W v q,W.heap.size=q->RS E z w0 W b tv a d v (L++ms)->Cl 90 #[.pointer (some ⟨b,0,none⟩),.slice (some ⟨q,0,none⟩) 1 1] (W.alloc (.cells #[.int .i64 18,.int .i64 0,.string ⟨#[]⟩,.int .u64 0,.int .u64 0,.int .u64 0,.int .u64 0] 65)) fun e W'=>e=.returned (.tuple #[])/\∃v',RS E z w0 W' b tv a d v' ((L++ms)++[⟨18,0,⟨#[]⟩,0,0,0,0⟩])/\Fr W W' b v v'):=fun W v q hq h=>zgg h (nd0 18) q hq (by rw [lA];omega)
   clear HBd;go_enter Tryz.func165,Tryz.ntmps165;go_wp2_with fail;refine (HB ()).mono ?_;rintro e w1 ⟨rfl,hb⟩;have H1:=hO (H.later hb);have HF1:Hid (Fr W w1 b v v):=Fr.below b v hb;clear hb HB H;go_wp2_with fail;refine (HWi _ _ H1.out).mono ?_;rintro e w2 ⟨rfl,v2,h2,hf2⟩;have H2:=hO h2;have HF2:Hid (Fr W w2 b v v2):=HF1.trans hf2;clear h2 hf2 H1 HF1 HWi;go_wp2_with fail;refine (HPu _ _ _ rfl H2.out).mono ?_;rintro e w4 ⟨rfl,v4,h4,hf4⟩;have H4:Hid (∃v',RS E z w0 w4 b tv a d v' (L++(ms++[nd0 18]))/\Fr W w4 b v v'):=⟨v4,by rw [<-List.append_assoc];exact h4,HF2.trans hf4⟩;clear h4 hf4 H2 HF2 HPu;go_wp2_with fail;go_end0
   exact ⟨rfl,H4.out⟩
theorem zoj {E:PE} (hE:OkE E) {z:Nat} {w0:World} {b:Nat} {tv:Value} {i d:Nat} (hb:bgP E i=false) (W:World) (v:Value) (L:List Nd) (h:RS E z w0 W b tv i d v L):Cl 153 #[.pointer (some ⟨b,0,none⟩)] W fun e W'=>PoR E z w0 b tv d W v L (.inr (i,60)) e W':=by
 have HB:Hid (∀_:Unit,Cl 135 #[.pointer (some ⟨b,0,none⟩)] W (rB W (.bool false))):=fun _=>by
  have:=zaT h hE.z;rw [hb] at this;exact this
 have HRf:Hid (∀W,RS E z w0 W b tv i d v L->Cl 38 #[.pointer (some ⟨b,0,none⟩),.int .i64 60] W fun e W'=>e=pnc (plA E z i) 60/\bW W W'):=fun W h=>zbJ h 60
 have H:=hO h;clear h hb hE;go_enter Tryz.func153,Tryz.ntmps153;go_wp2_with fail;refine (HB ()).mono ?_;rintro e w1 ⟨rfl,hb⟩;have H1:=hO (H.later hb);clear hb HB H;go_wp2_with fail;refine (HRf _ H1.out).mono ?_;rintro e w3 ⟨rfl,hb⟩;exact zah rfl ⟨rfl,H1.bl.trans (hb.mono H1.bl.size)⟩
theorem zok {E:PE} (hE:OkE E) {z:Nat} {w0:World} {b:Nat} {tv:Value} {i d:Nat} (hb:bgP E i=true) (h16:kdA E i=16) (HX0:Ct 63 E z w0 b tv (i+1) (d+1) (gN E 0 (i+1) (d+1))) (W:World) (v:Value) (L:List Nd) (h:RS E z w0 W b tv i d v L) (hL:L.length<=10027010 * i):Cl 153 #[.pointer (some ⟨b,0,none⟩)] W fun e W'=>PoR E z w0 b tv d W v L (gN E 5 i d) e W':=by
 have hlen:=hE.len;have hz:=hE.z;have hlt:=za9 (E:=E) (i:=i) (by omega);obtain ⟨t,ht,hk,hpl,hta⟩:=zav E z h.hi;clear hpl;obtain rfl:t=tkA E i:=hta hlt;have HB:Hid (∀_:Unit,Cl 135 #[.pointer (some ⟨b,0,none⟩)] W (rB W (.bool true))):=fun _=>by
  have:=zaT h hz;rw [hb] at this;exact this
 have HH:Hid (∀W,RS E z w0 W b tv i d v L->Cl 33 #[.pointer (some ⟨b,0,none⟩)] W (rB W (.agg #[.int .i64 (tkA E i).kd,.int .i64 (tkA E i).nn,.int .i64 (tkA E i).fr,.int .i64 (tkA E i).en,.string (tkA E i).tx,.int .u64 (tkA E i).s0,.int .u64 (tkA E i).s1,.int .u64 (tkA E i).s2,.int .u64 (tkA E i).s3]))):=fun W h=>zay h _ ht
 have H:=hO h;have HE:=hO hE;have HV:Hid (gN E 5 i d=bnd (rW E i d 17) fun a ms=>.inl (a,ms++[])):=zfK hlt (by unfold zbw zb2;rw [zc4 hlt,h16];rfl);have HWi:Hid (∀W v,RS E z w0 W b tv i d v L->Cl 164 #[.pointer (some ⟨b,0,none⟩),.int .i64 17] W fun e W'=>PoR E z w0 b tv d W v L (rW E i d 17) e W'):=fun W v h=>zcl hE 17 (by omega) hlt HX0 W v L h hL
 have HBd:=(show Hid _ from fun a ms=>zjK (a:=a) (ms:=ms) hE (i:=i) (d:=d) (c:=17) (by omega) hlt);rw [HV.out];rw [zc4 hlt,h16] at HH;generalize rW E i d 17=r at *;clear h ht hk hta h16 hb HX0 hE HV;generalize tkA E i=t at *
 cases r with
 | inr q =>
  show Cl 153 _ _ fun e W'=>PoR E z w0 b tv d W v L (.inr q) e W'
  go_enter Tryz.func153,Tryz.ntmps153;go_wp2_with fail;refine (HB ()).mono ?_;rintro e w1 ⟨rfl,hb⟩;have H1:=hO (H.later hb);have HF1:Hid (Fr W w1 b v v):=Fr.below b v hb;clear hb HB H;go_wp2_with fail;refine (HH _ H1.out).mono ?_;rintro e w2 ⟨rfl,hb⟩;have H2:Hid (RS E z w0 (w2.alloc (.cells #[.int .i64 16,.int .i64 t.nn,.int .i64 t.fr,.int .i64 t.en,.string t.tx,.int .u64 t.s0,.int .u64 t.s1,.int .u64 t.s2,.int .u64 t.s3] 69)) b tv i d v L):=(H1.later hb).later (zaa _ _);have HF2:Hid (Fr W (w2.alloc (.cells #[.int .i64 16,.int .i64 t.nn,.int .i64 t.fr,.int .i64 t.en,.string t.tx,.int .u64 t.s0,.int .u64 t.s1,.int .u64 t.s2,.int .u64 t.s3] 69)) b v v):=HF1.trans ((Fr.below b v hb).trans (Fr.below b v (zaa _ _)));have HT2:Hid (TX (w2.alloc (.cells #[.int .i64 16,.int .i64 t.nn,.int .i64 t.fr,.int .i64 t.en,.string t.tx,.int .u64 t.s0,.int .u64 t.s1,.int .u64 t.s2,.int .u64 t.s3] 69)) w2.heap.size ⟨16,t.nn,t.fr,t.en,t.tx,t.s0,t.s1,t.s2,t.s3⟩):=⟨heap_alloc_new w2 _⟩;have HN2:Hid (w2.heap.size≠b/\v.ownBlock≠some w2.heap.size):=(H1.later hb).new;clear hb HH H1 HF1;go_wp2_with fail;refine (HWi _ _ H2.out).mono ?_;rintro e w3 ⟨rfl,hb⟩;exact zah rfl ⟨rfl,hb⟩
 | inl p =>
  obtain ⟨a,ms⟩:=p;obtain ⟨b1,b2,b3⟩:=HBd a ms rfl
  show Cl 153 _ _ fun e W'=>PoR E z w0 b tv d W v L (.inl (a,ms++[])) e W'
  rw [List.append_nil];clear HBd;go_enter Tryz.func153,Tryz.ntmps153;go_wp2_with fail;refine (HB ()).mono ?_;rintro e w1 ⟨rfl,hb⟩;have H1:=hO (H.later hb);have HF1:Hid (Fr W w1 b v v):=Fr.below b v hb;clear hb HB H;go_wp2_with fail;refine (HH _ H1.out).mono ?_;rintro e w2 ⟨rfl,hb⟩;have H2:Hid (RS E z w0 (w2.alloc (.cells #[.int .i64 16,.int .i64 t.nn,.int .i64 t.fr,.int .i64 t.en,.string t.tx,.int .u64 t.s0,.int .u64 t.s1,.int .u64 t.s2,.int .u64 t.s3] 69)) b tv i d v L):=(H1.later hb).later (zaa _ _);have HF2:Hid (Fr W (w2.alloc (.cells #[.int .i64 16,.int .i64 t.nn,.int .i64 t.fr,.int .i64 t.en,.string t.tx,.int .u64 t.s0,.int .u64 t.s1,.int .u64 t.s2,.int .u64 t.s3] 69)) b v v):=HF1.trans ((Fr.below b v hb).trans (Fr.below b v (zaa _ _)));have HT2:Hid (TX (w2.alloc (.cells #[.int .i64 16,.int .i64 t.nn,.int .i64 t.fr,.int .i64 t.en,.string t.tx,.int .u64 t.s0,.int .u64 t.s1,.int .u64 t.s2,.int .u64 t.s3] 69)) w2.heap.size ⟨16,t.nn,t.fr,t.en,t.tx,t.s0,t.s1,t.s2,t.s3⟩):=⟨heap_alloc_new w2 _⟩;have HN2:Hid (w2.heap.size≠b/\v.ownBlock≠some w2.heap.size):=(H1.later hb).new;clear hb HH H1 HF1;go_wp2_with fail;refine (HWi _ _ H2.out).mono ?_;rintro e w3 ⟨rfl,v3,h3,hf3⟩;have H4:Hid (∃v',RS E z w0 w3 b tv a d v' (L++ms)/\Fr W w3 b v v'):=⟨v3,h3,HF2.trans hf3⟩;clear h3 hf3 H2 HF2 HWi HT2;go_wp2_with fail;go_end0
  exact ⟨rfl,H4.out⟩
theorem zol {E:PE} (hE:OkE E) {z:Nat} {w0:World} {b:Nat} {tv:Value} {i d:Nat} (hb:bgP E i=true) (h21:kdA E i=21) (HX0:Ct 63 E z w0 b tv (i+1) (d+1) (gN E 0 (i+1) (d+1))) (W:World) (v:Value) (L:List Nd) (h:RS E z w0 W b tv i d v L) (hL:L.length<=10027010 * i):Cl 153 #[.pointer (some ⟨b,0,none⟩)] W fun e W'=>PoR E z w0 b tv d W v L (gN E 5 i d) e W':=by
 have hlen:=hE.len;have hz:=hE.z;have hlt:=za9 (E:=E) (i:=i) (by omega);obtain ⟨t,ht,hk,hpl,hta⟩:=zav E z h.hi;clear hpl;obtain rfl:t=tkA E i:=hta hlt;have HB:Hid (∀_:Unit,Cl 135 #[.pointer (some ⟨b,0,none⟩)] W (rB W (.bool true))):=fun _=>by
  have:=zaT h hz;rw [hb] at this;exact this
 have HH:Hid (∀W,RS E z w0 W b tv i d v L->Cl 33 #[.pointer (some ⟨b,0,none⟩)] W (rB W (.agg #[.int .i64 (tkA E i).kd,.int .i64 (tkA E i).nn,.int .i64 (tkA E i).fr,.int .i64 (tkA E i).en,.string (tkA E i).tx,.int .u64 (tkA E i).s0,.int .u64 (tkA E i).s1,.int .u64 (tkA E i).s2,.int .u64 (tkA E i).s3]))):=fun W h=>zay h _ ht
 have H:=hO h;have HE:=hO hE;have HV:Hid (gN E 5 i d=bnd (rW E i d 22) fun a ms=>.inl (a,ms++[⟨19,0,(tkA E i).tx,0,0,0,0⟩])):=zfK hlt (by unfold zbw zb2;rw [zc4 hlt,h21];rfl);have HWi:Hid (∀W v,RS E z w0 W b tv i d v L->Cl 164 #[.pointer (some ⟨b,0,none⟩),.int .i64 22] W fun e W'=>PoR E z w0 b tv d W v L (rW E i d 22) e W'):=fun W v h=>zcl hE 22 (by omega) hlt HX0 W v L h hL
 have HBd:=(show Hid _ from fun a ms=>zjK (a:=a) (ms:=ms) hE (i:=i) (d:=d) (c:=22) (by omega) hlt);rw [HV.out];rw [zc4 hlt,h21] at HH;generalize rW E i d 22=r at *;clear h ht hk hta h21 hb HX0 hE HV;generalize tkA E i=t at *
 cases r with
 | inr q =>
  show Cl 153 _ _ fun e W'=>PoR E z w0 b tv d W v L (.inr q) e W'
  go_enter Tryz.func153,Tryz.ntmps153;go_wp2_with fail;refine (HB ()).mono ?_;rintro e w1 ⟨rfl,hb⟩;have H1:=hO (H.later hb);have HF1:Hid (Fr W w1 b v v):=Fr.below b v hb;clear hb HB H;go_wp2_with fail;refine (HH _ H1.out).mono ?_;rintro e w2 ⟨rfl,hb⟩;have H2:Hid (RS E z w0 (w2.alloc (.cells #[.int .i64 21,.int .i64 t.nn,.int .i64 t.fr,.int .i64 t.en,.string t.tx,.int .u64 t.s0,.int .u64 t.s1,.int .u64 t.s2,.int .u64 t.s3] 69)) b tv i d v L):=(H1.later hb).later (zaa _ _);have HF2:Hid (Fr W (w2.alloc (.cells #[.int .i64 21,.int .i64 t.nn,.int .i64 t.fr,.int .i64 t.en,.string t.tx,.int .u64 t.s0,.int .u64 t.s1,.int .u64 t.s2,.int .u64 t.s3] 69)) b v v):=HF1.trans ((Fr.below b v hb).trans (Fr.below b v (zaa _ _)));have HT2:Hid (TX (w2.alloc (.cells #[.int .i64 21,.int .i64 t.nn,.int .i64 t.fr,.int .i64 t.en,.string t.tx,.int .u64 t.s0,.int .u64 t.s1,.int .u64 t.s2,.int .u64 t.s3] 69)) w2.heap.size ⟨21,t.nn,t.fr,t.en,t.tx,t.s0,t.s1,t.s2,t.s3⟩):=⟨heap_alloc_new w2 _⟩;have HN2:Hid (w2.heap.size≠b/\v.ownBlock≠some w2.heap.size):=(H1.later hb).new;clear hb HH H1 HF1;go_wp2_with fail;refine (HWi _ _ H2.out).mono ?_;rintro e w3 ⟨rfl,hb⟩;exact zah rfl ⟨rfl,hb⟩
 | inl p =>
  obtain ⟨a,ms⟩:=p;obtain ⟨b1,b2,b3⟩:=HBd a ms rfl
  show Cl 153 _ _ fun e W'=>PoR E z w0 b tv d W v L (.inl (a,ms++[⟨19,0,t.tx,0,0,0,0⟩])) e W'
  have HPu:Hid (∀W v q,W.heap.size=q->RS E z w0 W b tv a d v (L++ms)->Cl 90 #[.pointer (some ⟨b,0,none⟩),.slice (some ⟨q,0,none⟩) 1 1] (W.alloc (.cells #[.int .i64 19,.int .i64 0,.string t.tx,.int .u64 0,.int .u64 0,.int .u64 0,.int .u64 0] 65)) fun e W'=>e=.returned (.tuple #[])/\∃v',RS E z w0 W' b tv a d v' ((L++ms)++[⟨19,0,t.tx,0,0,0,0⟩])/\Fr W W' b v v'):=fun W v q hq h=>zgg h ⟨19,0,t.tx,0,0,0,0⟩ q hq (by rw [lA];omega)
  clear HBd;go_enter Tryz.func153,Tryz.ntmps153;go_wp2_with fail;refine (HB ()).mono ?_;rintro e w1 ⟨rfl,hb⟩;have H1:=hO (H.later hb);have HF1:Hid (Fr W w1 b v v):=Fr.below b v hb;clear hb HB H;go_wp2_with fail;refine (HH _ H1.out).mono ?_;rintro e w2 ⟨rfl,hb⟩;have H2:Hid (RS E z w0 (w2.alloc (.cells #[.int .i64 21,.int .i64 t.nn,.int .i64 t.fr,.int .i64 t.en,.string t.tx,.int .u64 t.s0,.int .u64 t.s1,.int .u64 t.s2,.int .u64 t.s3] 69)) b tv i d v L):=(H1.later hb).later (zaa _ _);have HF2:Hid (Fr W (w2.alloc (.cells #[.int .i64 21,.int .i64 t.nn,.int .i64 t.fr,.int .i64 t.en,.string t.tx,.int .u64 t.s0,.int .u64 t.s1,.int .u64 t.s2,.int .u64 t.s3] 69)) b v v):=HF1.trans ((Fr.below b v hb).trans (Fr.below b v (zaa _ _)));have HT2:Hid (TX (w2.alloc (.cells #[.int .i64 21,.int .i64 t.nn,.int .i64 t.fr,.int .i64 t.en,.string t.tx,.int .u64 t.s0,.int .u64 t.s1,.int .u64 t.s2,.int .u64 t.s3] 69)) w2.heap.size ⟨21,t.nn,t.fr,t.en,t.tx,t.s0,t.s1,t.s2,t.s3⟩):=⟨heap_alloc_new w2 _⟩;have HN2:Hid (w2.heap.size≠b/\v.ownBlock≠some w2.heap.size):=(H1.later hb).new;clear hb HH H1 HF1;go_wp2_with fail;refine (HWi _ _ H2.out).mono ?_;rintro e w3 ⟨rfl,v3,h3,hf3⟩;have H3:=hO h3;have HF3:Hid (Fr W w3 b v v3):=HF2.trans hf3;have HT3:=hO (zeG HT2 hf3 HN2.1 HN2.2);clear h3 hf3 H2 HF2 HT2 HWi;obtain ⟨c0,c1,c2,c3,c4,c5,c6,c7,c8⟩:=HT3.cells;go_wp2_with fail
  refine (HPu _ _ _ rfl H3.out).mono ?_;rintro e w4 ⟨rfl,v4,h4,hf4⟩;have H4:Hid (∃v',RS E z w0 w4 b tv a d v' (L++(ms++[⟨19,0,t.tx,0,0,0,0⟩]))/\Fr W w4 b v v'):=⟨v4,by rw [<-List.append_assoc];exact h4,HF3.trans hf4⟩;clear h4 hf4 H3 HF3 HT3 HPu c0 c1 c2 c3 c4 c5 c6 c7 c8;go_wp2_with fail;go_end0
  exact ⟨rfl,H4.out⟩
theorem zom {E:PE} (hE:OkE E) {z:Nat} {w0:World} {b:Nat} {tv:Value} {i d:Nat} (hb:bgP E i=true) (h23:kdA E i=23) (HX0:Ct 63 E z w0 b tv (i+1) (d+1) (gN E 0 (i+1) (d+1))) (W:World) (v:Value) (L:List Nd) (h:RS E z w0 W b tv i d v L) (hL:L.length<=10027010 * i):Cl 153 #[.pointer (some ⟨b,0,none⟩)] W fun e W'=>PoR E z w0 b tv d W v L (gN E 5 i d) e W':=by
 have hlen:=hE.len;have hz:=hE.z;have hlt:=za9 (E:=E) (i:=i) (by omega);obtain ⟨t,ht,hk,hpl,hta⟩:=zav E z h.hi;clear hpl;obtain rfl:t=tkA E i:=hta hlt;have HB:Hid (∀_:Unit,Cl 135 #[.pointer (some ⟨b,0,none⟩)] W (rB W (.bool true))):=fun _=>by
  have:=zaT h hz;rw [hb] at this;exact this
 have HH:Hid (∀W,RS E z w0 W b tv i d v L->Cl 33 #[.pointer (some ⟨b,0,none⟩)] W (rB W (.agg #[.int .i64 (tkA E i).kd,.int .i64 (tkA E i).nn,.int .i64 (tkA E i).fr,.int .i64 (tkA E i).en,.string (tkA E i).tx,.int .u64 (tkA E i).s0,.int .u64 (tkA E i).s1,.int .u64 (tkA E i).s2,.int .u64 (tkA E i).s3]))):=fun W h=>zay h _ ht
 have H:=hO h;have HE:=hO hE;have HV:Hid (gN E 5 i d=bnd (rW E i d 24) fun a ms=>.inl (a,ms++[⟨20,0,⟨#[]⟩,0,0,0,0⟩])):=zfK hlt (by unfold zbw zb2;rw [zc4 hlt,h23];rfl);have HWi:Hid (∀W v,RS E z w0 W b tv i d v L->Cl 164 #[.pointer (some ⟨b,0,none⟩),.int .i64 24] W fun e W'=>PoR E z w0 b tv d W v L (rW E i d 24) e W'):=fun W v h=>zcl hE 24 (by omega) hlt HX0 W v L h hL
 have HBd:=(show Hid _ from fun a ms=>zjK (a:=a) (ms:=ms) hE (i:=i) (d:=d) (c:=24) (by omega) hlt);rw [HV.out];rw [zc4 hlt,h23] at HH;generalize rW E i d 24=r at *;clear h ht hk hta h23 hb HX0 hE HV;generalize tkA E i=t at *
 cases r with
 | inr q =>
  show Cl 153 _ _ fun e W'=>PoR E z w0 b tv d W v L (.inr q) e W'
  go_enter Tryz.func153,Tryz.ntmps153;go_wp2_with fail;refine (HB ()).mono ?_;rintro e w1 ⟨rfl,hb⟩;have H1:=hO (H.later hb);have HF1:Hid (Fr W w1 b v v):=Fr.below b v hb;clear hb HB H;go_wp2_with fail;refine (HH _ H1.out).mono ?_;rintro e w2 ⟨rfl,hb⟩;have H2:Hid (RS E z w0 (w2.alloc (.cells #[.int .i64 23,.int .i64 t.nn,.int .i64 t.fr,.int .i64 t.en,.string t.tx,.int .u64 t.s0,.int .u64 t.s1,.int .u64 t.s2,.int .u64 t.s3] 69)) b tv i d v L):=(H1.later hb).later (zaa _ _);have HF2:Hid (Fr W (w2.alloc (.cells #[.int .i64 23,.int .i64 t.nn,.int .i64 t.fr,.int .i64 t.en,.string t.tx,.int .u64 t.s0,.int .u64 t.s1,.int .u64 t.s2,.int .u64 t.s3] 69)) b v v):=HF1.trans ((Fr.below b v hb).trans (Fr.below b v (zaa _ _)));have HT2:Hid (TX (w2.alloc (.cells #[.int .i64 23,.int .i64 t.nn,.int .i64 t.fr,.int .i64 t.en,.string t.tx,.int .u64 t.s0,.int .u64 t.s1,.int .u64 t.s2,.int .u64 t.s3] 69)) w2.heap.size ⟨23,t.nn,t.fr,t.en,t.tx,t.s0,t.s1,t.s2,t.s3⟩):=⟨heap_alloc_new w2 _⟩;have HN2:Hid (w2.heap.size≠b/\v.ownBlock≠some w2.heap.size):=(H1.later hb).new;clear hb HH H1 HF1;go_wp2_with fail;refine (HWi _ _ H2.out).mono ?_;rintro e w3 ⟨rfl,hb⟩;exact zah rfl ⟨rfl,hb⟩
 | inl p =>
  obtain ⟨a,ms⟩:=p;obtain ⟨b1,b2,b3⟩:=HBd a ms rfl
  show Cl 153 _ _ fun e W'=>PoR E z w0 b tv d W v L (.inl (a,ms++[⟨20,0,⟨#[]⟩,0,0,0,0⟩])) e W'
  have HPu:Hid (∀W v q,W.heap.size=q->RS E z w0 W b tv a d v (L++ms)->Cl 90 #[.pointer (some ⟨b,0,none⟩),.slice (some ⟨q,0,none⟩) 1 1] (W.alloc (.cells #[.int .i64 20,.int .i64 0,.string ⟨#[]⟩,.int .u64 0,.int .u64 0,.int .u64 0,.int .u64 0] 65)) fun e W'=>e=.returned (.tuple #[])/\∃v',RS E z w0 W' b tv a d v' ((L++ms)++[⟨20,0,⟨#[]⟩,0,0,0,0⟩])/\Fr W W' b v v'):=fun W v q hq h=>zgg h ⟨20,0,⟨#[]⟩,0,0,0,0⟩ q hq (by rw [lA];omega)
  clear HBd;go_enter Tryz.func153,Tryz.ntmps153;go_wp2_with fail;refine (HB ()).mono ?_;rintro e w1 ⟨rfl,hb⟩;have H1:=hO (H.later hb);have HF1:Hid (Fr W w1 b v v):=Fr.below b v hb;clear hb HB H;go_wp2_with fail;refine (HH _ H1.out).mono ?_;rintro e w2 ⟨rfl,hb⟩;have H2:Hid (RS E z w0 (w2.alloc (.cells #[.int .i64 23,.int .i64 t.nn,.int .i64 t.fr,.int .i64 t.en,.string t.tx,.int .u64 t.s0,.int .u64 t.s1,.int .u64 t.s2,.int .u64 t.s3] 69)) b tv i d v L):=(H1.later hb).later (zaa _ _);have HF2:Hid (Fr W (w2.alloc (.cells #[.int .i64 23,.int .i64 t.nn,.int .i64 t.fr,.int .i64 t.en,.string t.tx,.int .u64 t.s0,.int .u64 t.s1,.int .u64 t.s2,.int .u64 t.s3] 69)) b v v):=HF1.trans ((Fr.below b v hb).trans (Fr.below b v (zaa _ _)));have HT2:Hid (TX (w2.alloc (.cells #[.int .i64 23,.int .i64 t.nn,.int .i64 t.fr,.int .i64 t.en,.string t.tx,.int .u64 t.s0,.int .u64 t.s1,.int .u64 t.s2,.int .u64 t.s3] 69)) w2.heap.size ⟨23,t.nn,t.fr,t.en,t.tx,t.s0,t.s1,t.s2,t.s3⟩):=⟨heap_alloc_new w2 _⟩;have HN2:Hid (w2.heap.size≠b/\v.ownBlock≠some w2.heap.size):=(H1.later hb).new;clear hb HH H1 HF1;go_wp2_with fail;refine (HWi _ _ H2.out).mono ?_;rintro e w3 ⟨rfl,v3,h3,hf3⟩;have H3:=hO h3;have HF3:Hid (Fr W w3 b v v3):=HF2.trans hf3;have HT3:=hO (zeG HT2 hf3 HN2.1 HN2.2);clear h3 hf3 H2 HF2 HT2 HWi;obtain ⟨c0,c1,c2,c3,c4,c5,c6,c7,c8⟩:=HT3.cells;go_wp2_with fail
  refine (HPu _ _ _ rfl H3.out).mono ?_;rintro e w4 ⟨rfl,v4,h4,hf4⟩;have H4:Hid (∃v',RS E z w0 w4 b tv a d v' (L++(ms++[⟨20,0,⟨#[]⟩,0,0,0,0⟩]))/\Fr W w4 b v v'):=⟨v4,by rw [<-List.append_assoc];exact h4,HF3.trans hf4⟩;clear h4 hf4 H3 HF3 HT3 HPu c0 c1 c2 c3 c4 c5 c6 c7 c8;go_wp2_with fail;go_end0
  exact ⟨rfl,H4.out⟩
theorem zon {E:PE} (hE:OkE E) {z:Nat} {w0:World} {b:Nat} {tv:Value} {i d:Nat} (hb:bgP E i=true) (h25:kdA E i=25) (HX0:Ct 63 E z w0 b tv (i+1) (d+1) (gN E 0 (i+1) (d+1))) (W:World) (v:Value) (L:List Nd) (h:RS E z w0 W b tv i d v L) (hL:L.length<=10027010 * i):Cl 153 #[.pointer (some ⟨b,0,none⟩)] W fun e W'=>PoR E z w0 b tv d W v L (gN E 5 i d) e W':=by
 have hlen:=hE.len;have hz:=hE.z;have hlt:=za9 (E:=E) (i:=i) (by omega);obtain ⟨t,ht,hk,hpl,hta⟩:=zav E z h.hi;clear hpl;obtain rfl:t=tkA E i:=hta hlt;have HB:Hid (∀_:Unit,Cl 135 #[.pointer (some ⟨b,0,none⟩)] W (rB W (.bool true))):=fun _=>by
  have:=zaT h hz;rw [hb] at this;exact this
 have HH:Hid (∀W,RS E z w0 W b tv i d v L->Cl 33 #[.pointer (some ⟨b,0,none⟩)] W (rB W (.agg #[.int .i64 (tkA E i).kd,.int .i64 (tkA E i).nn,.int .i64 (tkA E i).fr,.int .i64 (tkA E i).en,.string (tkA E i).tx,.int .u64 (tkA E i).s0,.int .u64 (tkA E i).s1,.int .u64 (tkA E i).s2,.int .u64 (tkA E i).s3]))):=fun W h=>zay h _ ht
 have H:=hO h;have HE:=hO hE;have HV:Hid (gN E 5 i d=bnd (rW E i d 26) fun a ms=>.inl (a,ms++[⟨21,0,⟨#[]⟩,0,0,0,0⟩])):=zfK hlt (by unfold zbw zb2;rw [zc4 hlt,h25];rfl);have HWi:Hid (∀W v,RS E z w0 W b tv i d v L->Cl 164 #[.pointer (some ⟨b,0,none⟩),.int .i64 26] W fun e W'=>PoR E z w0 b tv d W v L (rW E i d 26) e W'):=fun W v h=>zcl hE 26 (by omega) hlt HX0 W v L h hL
 have HBd:=(show Hid _ from fun a ms=>zjK (a:=a) (ms:=ms) hE (i:=i) (d:=d) (c:=26) (by omega) hlt);rw [HV.out];rw [zc4 hlt,h25] at HH;generalize rW E i d 26=r at *;clear h ht hk hta h25 hb HX0 hE HV;generalize tkA E i=t at *
 cases r with
 | inr q =>
  show Cl 153 _ _ fun e W'=>PoR E z w0 b tv d W v L (.inr q) e W'
  go_enter Tryz.func153,Tryz.ntmps153;go_wp2_with fail;refine (HB ()).mono ?_;rintro e w1 ⟨rfl,hb⟩;have H1:=hO (H.later hb);have HF1:Hid (Fr W w1 b v v):=Fr.below b v hb;clear hb HB H;go_wp2_with fail;refine (HH _ H1.out).mono ?_;rintro e w2 ⟨rfl,hb⟩;have H2:Hid (RS E z w0 (w2.alloc (.cells #[.int .i64 25,.int .i64 t.nn,.int .i64 t.fr,.int .i64 t.en,.string t.tx,.int .u64 t.s0,.int .u64 t.s1,.int .u64 t.s2,.int .u64 t.s3] 69)) b tv i d v L):=(H1.later hb).later (zaa _ _);have HF2:Hid (Fr W (w2.alloc (.cells #[.int .i64 25,.int .i64 t.nn,.int .i64 t.fr,.int .i64 t.en,.string t.tx,.int .u64 t.s0,.int .u64 t.s1,.int .u64 t.s2,.int .u64 t.s3] 69)) b v v):=HF1.trans ((Fr.below b v hb).trans (Fr.below b v (zaa _ _)));have HT2:Hid (TX (w2.alloc (.cells #[.int .i64 25,.int .i64 t.nn,.int .i64 t.fr,.int .i64 t.en,.string t.tx,.int .u64 t.s0,.int .u64 t.s1,.int .u64 t.s2,.int .u64 t.s3] 69)) w2.heap.size ⟨25,t.nn,t.fr,t.en,t.tx,t.s0,t.s1,t.s2,t.s3⟩):=⟨heap_alloc_new w2 _⟩;have HN2:Hid (w2.heap.size≠b/\v.ownBlock≠some w2.heap.size):=(H1.later hb).new;clear hb HH H1 HF1;go_wp2_with fail;refine (HWi _ _ H2.out).mono ?_;rintro e w3 ⟨rfl,hb⟩;exact zah rfl ⟨rfl,hb⟩
 | inl p =>
  obtain ⟨a,ms⟩:=p;obtain ⟨b1,b2,b3⟩:=HBd a ms rfl
  show Cl 153 _ _ fun e W'=>PoR E z w0 b tv d W v L (.inl (a,ms++[⟨21,0,⟨#[]⟩,0,0,0,0⟩])) e W'
  have HPu:Hid (∀W v q,W.heap.size=q->RS E z w0 W b tv a d v (L++ms)->Cl 90 #[.pointer (some ⟨b,0,none⟩),.slice (some ⟨q,0,none⟩) 1 1] (W.alloc (.cells #[.int .i64 21,.int .i64 0,.string ⟨#[]⟩,.int .u64 0,.int .u64 0,.int .u64 0,.int .u64 0] 65)) fun e W'=>e=.returned (.tuple #[])/\∃v',RS E z w0 W' b tv a d v' ((L++ms)++[⟨21,0,⟨#[]⟩,0,0,0,0⟩])/\Fr W W' b v v'):=fun W v q hq h=>zgg h ⟨21,0,⟨#[]⟩,0,0,0,0⟩ q hq (by rw [lA];omega)
  clear HBd;go_enter Tryz.func153,Tryz.ntmps153;go_wp2_with fail;refine (HB ()).mono ?_;rintro e w1 ⟨rfl,hb⟩;have H1:=hO (H.later hb);have HF1:Hid (Fr W w1 b v v):=Fr.below b v hb;clear hb HB H;go_wp2_with fail;refine (HH _ H1.out).mono ?_;rintro e w2 ⟨rfl,hb⟩;have H2:Hid (RS E z w0 (w2.alloc (.cells #[.int .i64 25,.int .i64 t.nn,.int .i64 t.fr,.int .i64 t.en,.string t.tx,.int .u64 t.s0,.int .u64 t.s1,.int .u64 t.s2,.int .u64 t.s3] 69)) b tv i d v L):=(H1.later hb).later (zaa _ _);have HF2:Hid (Fr W (w2.alloc (.cells #[.int .i64 25,.int .i64 t.nn,.int .i64 t.fr,.int .i64 t.en,.string t.tx,.int .u64 t.s0,.int .u64 t.s1,.int .u64 t.s2,.int .u64 t.s3] 69)) b v v):=HF1.trans ((Fr.below b v hb).trans (Fr.below b v (zaa _ _)));have HT2:Hid (TX (w2.alloc (.cells #[.int .i64 25,.int .i64 t.nn,.int .i64 t.fr,.int .i64 t.en,.string t.tx,.int .u64 t.s0,.int .u64 t.s1,.int .u64 t.s2,.int .u64 t.s3] 69)) w2.heap.size ⟨25,t.nn,t.fr,t.en,t.tx,t.s0,t.s1,t.s2,t.s3⟩):=⟨heap_alloc_new w2 _⟩;have HN2:Hid (w2.heap.size≠b/\v.ownBlock≠some w2.heap.size):=(H1.later hb).new;clear hb HH H1 HF1;go_wp2_with fail;refine (HWi _ _ H2.out).mono ?_;rintro e w3 ⟨rfl,v3,h3,hf3⟩;have H3:=hO h3;have HF3:Hid (Fr W w3 b v v3):=HF2.trans hf3;have HT3:=hO (zeG HT2 hf3 HN2.1 HN2.2);clear h3 hf3 H2 HF2 HT2 HWi;obtain ⟨c0,c1,c2,c3,c4,c5,c6,c7,c8⟩:=HT3.cells;go_wp2_with fail
  refine (HPu _ _ _ rfl H3.out).mono ?_;rintro e w4 ⟨rfl,v4,h4,hf4⟩;have H4:Hid (∃v',RS E z w0 w4 b tv a d v' (L++(ms++[⟨21,0,⟨#[]⟩,0,0,0,0⟩]))/\Fr W w4 b v v'):=⟨v4,by rw [<-List.append_assoc];exact h4,HF3.trans hf4⟩;clear h4 hf4 H3 HF3 HT3 HPu c0 c1 c2 c3 c4 c5 c6 c7 c8;go_wp2_with fail;go_end0
  exact ⟨rfl,H4.out⟩
theorem zoo {E:PE} (hE:OkE E) {z:Nat} {w0:World} {b:Nat} {tv:Value} {i d:Nat} (hb:bgP E i=true) (h19:kdA E i=19) (HX0:Ct 63 E z w0 b tv (i+1) (d+1) (gN E 0 (i+1) (d+1))) (W:World) (v:Value) (L:List Nd) (h:RS E z w0 W b tv i d v L) (hL:L.length<=10027010 * i):Cl 153 #[.pointer (some ⟨b,0,none⟩)] W fun e W'=>PoR E z w0 b tv d W v L (gN E 5 i d) e W':=by
 have hlen:=hE.len;have hz:=hE.z;have hlt:=za9 (E:=E) (i:=i) (by omega);obtain ⟨t,ht,hk,hpl,hta⟩:=zav E z h.hi;clear hpl;obtain rfl:t=tkA E i:=hta hlt;have HB:Hid (∀_:Unit,Cl 135 #[.pointer (some ⟨b,0,none⟩)] W (rB W (.bool true))):=fun _=>by
  have:=zaT h hz;rw [hb] at this;exact this
 have HH:Hid (∀W,RS E z w0 W b tv i d v L->Cl 33 #[.pointer (some ⟨b,0,none⟩)] W (rB W (.agg #[.int .i64 (tkA E i).kd,.int .i64 (tkA E i).nn,.int .i64 (tkA E i).fr,.int .i64 (tkA E i).en,.string (tkA E i).tx,.int .u64 (tkA E i).s0,.int .u64 (tkA E i).s1,.int .u64 (tkA E i).s2,.int .u64 (tkA E i).s3]))):=fun W h=>zay h _ ht
 have H:=hO h;have HE:=hO hE;have HV:Hid (gN E 5 i d=brR E i d):=zoi hlt h19;have HWi:Hid (∀W v,RS E z w0 W b tv i d v L->Cl 165 #[.pointer (some ⟨b,0,none⟩)] W fun e W'=>PoR E z w0 b tv d W v L (brR E i d) e W'):=fun W v h=>zjN hE h19 HX0 W v L h hL
 rw [HV.out];rw [zc4 hlt,h19] at HH;generalize brR E i d=r at *;clear h ht hk hta h19 hb HX0 hE HV;generalize tkA E i=t at *
 cases r with
 | inr q =>
  go_enter Tryz.func153,Tryz.ntmps153;go_wp2_with fail;refine (HB ()).mono ?_;rintro e w1 ⟨rfl,hb⟩;have H1:=hO (H.later hb);have HF1:Hid (Fr W w1 b v v):=Fr.below b v hb;clear hb HB H;go_wp2_with fail;refine (HH _ H1.out).mono ?_;rintro e w2 ⟨rfl,hb⟩;have H2:Hid (RS E z w0 (w2.alloc (.cells #[.int .i64 19,.int .i64 t.nn,.int .i64 t.fr,.int .i64 t.en,.string t.tx,.int .u64 t.s0,.int .u64 t.s1,.int .u64 t.s2,.int .u64 t.s3] 69)) b tv i d v L):=(H1.later hb).later (zaa _ _);have HF2:Hid (Fr W (w2.alloc (.cells #[.int .i64 19,.int .i64 t.nn,.int .i64 t.fr,.int .i64 t.en,.string t.tx,.int .u64 t.s0,.int .u64 t.s1,.int .u64 t.s2,.int .u64 t.s3] 69)) b v v):=HF1.trans ((Fr.below b v hb).trans (Fr.below b v (zaa _ _)));have HT2:Hid (TX (w2.alloc (.cells #[.int .i64 19,.int .i64 t.nn,.int .i64 t.fr,.int .i64 t.en,.string t.tx,.int .u64 t.s0,.int .u64 t.s1,.int .u64 t.s2,.int .u64 t.s3] 69)) w2.heap.size ⟨19,t.nn,t.fr,t.en,t.tx,t.s0,t.s1,t.s2,t.s3⟩):=⟨heap_alloc_new w2 _⟩;have HN2:Hid (w2.heap.size≠b/\v.ownBlock≠some w2.heap.size):=(H1.later hb).new;clear hb HH H1 HF1;go_wp2_with fail;refine (HWi _ _ H2.out).mono ?_;rintro e w3 ⟨rfl,hb⟩;exact zah rfl ⟨rfl,hb⟩
 | inl p =>
  go_enter Tryz.func153,Tryz.ntmps153;go_wp2_with fail;refine (HB ()).mono ?_;rintro e w1 ⟨rfl,hb⟩;have H1:=hO (H.later hb);have HF1:Hid (Fr W w1 b v v):=Fr.below b v hb;clear hb HB H;go_wp2_with fail;refine (HH _ H1.out).mono ?_;rintro e w2 ⟨rfl,hb⟩;have H2:Hid (RS E z w0 (w2.alloc (.cells #[.int .i64 19,.int .i64 t.nn,.int .i64 t.fr,.int .i64 t.en,.string t.tx,.int .u64 t.s0,.int .u64 t.s1,.int .u64 t.s2,.int .u64 t.s3] 69)) b tv i d v L):=(H1.later hb).later (zaa _ _);have HF2:Hid (Fr W (w2.alloc (.cells #[.int .i64 19,.int .i64 t.nn,.int .i64 t.fr,.int .i64 t.en,.string t.tx,.int .u64 t.s0,.int .u64 t.s1,.int .u64 t.s2,.int .u64 t.s3] 69)) b v v):=HF1.trans ((Fr.below b v hb).trans (Fr.below b v (zaa _ _)));have HT2:Hid (TX (w2.alloc (.cells #[.int .i64 19,.int .i64 t.nn,.int .i64 t.fr,.int .i64 t.en,.string t.tx,.int .u64 t.s0,.int .u64 t.s1,.int .u64 t.s2,.int .u64 t.s3] 69)) w2.heap.size ⟨19,t.nn,t.fr,t.en,t.tx,t.s0,t.s1,t.s2,t.s3⟩):=⟨heap_alloc_new w2 _⟩;have HN2:Hid (w2.heap.size≠b/\v.ownBlock≠some w2.heap.size):=(H1.later hb).new;clear hb HH H1 HF1;go_wp2_with fail;refine (HWi _ _ H2.out).mono ?_;rintro e w3 ⟨rfl,v3,h3,hf3⟩;have H4:Hid (∃v',RS E z w0 w3 b tv p.1 d v' (L++p.2)/\Fr W w3 b v v'):=⟨v3,h3,HF2.trans hf3⟩;clear h3 hf3 H2 HF2 HWi HT2;go_wp2_with fail;go_end0
  exact ⟨rfl,H4.out⟩
theorem zcP {E:PE} (hE:OkE E) {z:Nat} {w0:World} {b:Nat} {tv:Value} {i d:Nat} (hv:R.VB w0) (hb:bgP E i=true) (hkd:kdA E i=2∨kdA E i=3∨kdA E i=28∨kdA E i=5∨kdA E i=18∨kdA E i=29∨kdA E i=30∨kdA E i=1) (W:World) (v:Value) (L:List Nd) (h:RS E z w0 W b tv i d v L) (hL:L.length<=10027010 * i):Cl 153 #[.pointer (some ⟨b,0,none⟩)] W fun e W'=>PoR E z w0 b tv d W v L (gN E 5 i d) e W':=by
 have hlen:=hE.len;have hz:=hE.z;have hlt:=za9 (E:=E) (i:=i) (by omega);obtain ⟨t,ht,hk,hpl,hta⟩:=zav E z h.hi;clear hpl;obtain rfl:t=tkA E i:=hta hlt;have HB:Hid (∀_:Unit,Cl 135 #[.pointer (some ⟨b,0,none⟩)] W (rB W (.bool true))):=fun _=>by
  have:=zaT h hz;rw [hb] at this;exact this
 have HH:Hid (∀W,RS E z w0 W b tv i d v L->Cl 33 #[.pointer (some ⟨b,0,none⟩)] W (rB W (.agg #[.int .i64 (tkA E i).kd,.int .i64 (tkA E i).nn,.int .i64 (tkA E i).fr,.int .i64 (tkA E i).en,.string (tkA E i).tx,.int .u64 (tkA E i).s0,.int .u64 (tkA E i).s1,.int .u64 (tkA E i).s2,.int .u64 (tkA E i).s3]))):=fun W h=>zay h _ ht
 have H:=hO h;have HE:=hO hE;have hkt:=zc4 hlt;have hmem:tkA E i∈E.l:=by unfold tkA;rw [gE hlt];exact List.getElem_mem hlt
 have HV:Hid (gN E 5 i d=.inl (i+1,lfN (tkA E i))):=by
  show gN E 5 i d=_
  rw [g5 E i d hlt,show zbw E i=.inl (lfN (tkA E i),1) from by unfold zbw;rw [hE.rn];exact zfL (by rw [hkt];exact hkd)]
 rw [HV.out];have HLf:Hid (∀W,R.VB W->Cl 166 #[(.agg #[.int .i64 (tkA E i).kd,.int .i64 (tkA E i).nn,.int .i64 (tkA E i).fr,.int .i64 (tkA E i).en,.string (tkA E i).tx,.int .u64 (tkA E i).s0,.int .u64 (tkA E i).s1,.int .u64 (tkA E i).s2,.int .u64 (tkA E i).s3])] W fun e w'=>LfV W w' (lfN (tkA E i)) e/\bW W w'):=fun W hw=>zlS (tkA E i) (by rw [hkt];exact hkd) (hE.rg _ hmem) W hw
 have HVB:Hid (∀W,bW w0 W->R.VB W):=fun W hW=>hv.below hW hv.lt
 have hM:=zjL (tkA E i);have hM2:=zjM (tkA E i);have HPu:Hid (∀W q c,RS E z w0 W b tv i d v L->(∀j u,(T.ndc (lfN (tkA E i)))[j]?=some u->W.cell? ((⟨q,0,none⟩:Addr).add j)=some u)->Cl 90 #[.pointer (some ⟨b,0,none⟩),.slice (some ⟨q,0,none⟩) (lfN (tkA E i)).length c] W fun e W'=>e=.returned (.tuple #[])/\∃v',RS E z w0 W' b tv i d v' (L++lfN (tkA E i))/\Fr W W' b v v'):=fun W q c h hq=>zjt h _ q c hM (by omega) hq
 have HPs:Hid (∀W v,RS E z w0 W b tv i d v (L++lfN (tkA E i))->Cl 62 #[.pointer (some ⟨b,0,none⟩),.int .i64 (tkA E i).kd] W fun e W'=>e=.returned (.tuple #[])/\RS E z w0 W' b tv (i+1) d v (L++lfN (tkA E i))/\Fr W W' b v v):=fun W v h=>by
  rw [hkt];exact zcw h hlt hz
 have v16:((tkA E i).kd==16)=false:=by rw [hkt];exact bF (by omega)
 have v19:((tkA E i).kd==19)=false:=by rw [hkt];exact bF (by omega)
 have v21:((tkA E i).kd==21)=false:=by rw [hkt];exact bF (by omega)
 have v23:((tkA E i).kd==23)=false:=by rw [hkt];exact bF (by omega)
 have v25:((tkA E i).kd==25)=false:=by rw [hkt];exact bF (by omega)
 clear h ht hk hta hkd hb hE HV hkt hmem hv;generalize lfN (tkA E i)=M at *;generalize tkA E i=t at *;go_enter Tryz.func153,Tryz.ntmps153;go_wp2_with fail;refine (HB ()).mono ?_;rintro e w1 ⟨rfl,hb⟩;have H1:=hO (H.later hb);have HF1:Hid (Fr W w1 b v v):=Fr.below b v hb;clear hb HB H;go_wp2_with fail;refine (HH _ H1.out).mono ?_;rintro e w2 ⟨rfl,hb⟩;have H2:Hid (RS E z w0 (w2.alloc (.cells #[.int .i64 t.kd,.int .i64 t.nn,.int .i64 t.fr,.int .i64 t.en,.string t.tx,.int .u64 t.s0,.int .u64 t.s1,.int .u64 t.s2,.int .u64 t.s3] 69)) b tv i d v L):=(H1.later hb).later (zaa _ _);have HF2:Hid (Fr W (w2.alloc (.cells #[.int .i64 t.kd,.int .i64 t.nn,.int .i64 t.fr,.int .i64 t.en,.string t.tx,.int .u64 t.s0,.int .u64 t.s1,.int .u64 t.s2,.int .u64 t.s3] 69)) b v v):=HF1.trans ((Fr.below b v hb).trans (Fr.below b v (zaa _ _)));have HT2:Hid (TX (w2.alloc (.cells #[.int .i64 t.kd,.int .i64 t.nn,.int .i64 t.fr,.int .i64 t.en,.string t.tx,.int .u64 t.s0,.int .u64 t.s1,.int .u64 t.s2,.int .u64 t.s3] 69)) w2.heap.size t):=⟨heap_alloc_new w2 _⟩;have HN2:Hid (w2.heap.size≠b/\v.ownBlock≠some w2.heap.size):=(H1.later hb).new;clear hb HH H1 HF1;go_wp2_with fail;refine (HLf _ (HVB _ H2.bl)).mono ?_;rintro e w3 ⟨⟨u,rfl,ho⟩,hb3⟩;obtain ⟨q,c,rfl,_,_⟩:=ho.form hM;have H3:=hO (H2.later hb3);have HF3:Hid (Fr W w3 b v v):=HF2.trans (Fr.below b v hb3);have HT3:=hO (HT2.below hb3)
 have HQ:Hid (∀j u,(T.ndc M)[j]?=some u->w3.cell? ((⟨q,0,none⟩:Addr).add j)=some u):=ho.cells rfl;clear ho hb3 H2 HF2 HT2 HLf;go_wp2_with fail;refine (HPu _ _ _ H3.out HQ.out).mono ?_;rintro e w4 ⟨rfl,v4,h4,hf4⟩;have H4:=hO h4;have HF4:Hid (Fr W w4 b v v4):=HF3.trans hf4;have HT4:=hO (zeG HT3 hf4 HN2.1 HN2.2);clear h4 hf4 H3 HF3 HT3 HPu HQ;obtain ⟨c0,c1,c2,c3,c4,c5,c6,c7,c8⟩:=HT4.cells;go_wp2_with fail;refine (HPs _ _ H4.out).mono ?_;rintro e w5 ⟨rfl,h5,hf5⟩;have H5:Hid (∃v',RS E z w0 w5 b tv (i+1) d v' (L++M)/\Fr W w5 b v v'):=⟨v4,h5,HF4.trans hf5⟩;clear h5 hf5 H4 HF4 HT4 HPs c0 c1 c2 c3 c4 c5 c6 c7 c8;go_wp2_with fail;go_end0
 exact ⟨rfl,H5.out⟩
theorem zhL {E:PE} (hE:OkE E) {z:Nat} {w0:World} {b:Nat} {tv:Value} {i d:Nat} (hv:R.VB w0) (HX0:i<E.l.length->Ct 63 E z w0 b tv (i+1) (d+1) (gN E 0 (i+1) (d+1))):Ct 153 E z w0 b tv i d (gP E i d):=by
 intro W v L h hL;unfold gP
 cases hb:bgP E i with
 | false=>exact zoj hE hb W v L h
 | true =>
  have hlt:=zfh hb;rw [iP rfl];have hbb:=hb;unfold bgP prK at hbb;simp only [Bool.or_eq_true,Bool.and_eq_true,beq_iff_eq] at hbb
  rcases hbb with (((((((((((q | q) | q) | q) | q) | q) | q) | q) | q) | q) | q) | q) | ⟨q,_⟩
  ·exact zcP hE hv hb (by omega) W v L h hL
  ·exact zcP hE hv hb (by omega) W v L h hL
  ·exact zcP hE hv hb (by omega) W v L h hL
  ·exact zcP hE hv hb (by omega) W v L h hL
  ·exact zcP hE hv hb (by omega) W v L h hL
  ·exact zcP hE hv hb (by omega) W v L h hL
  ·exact zcP hE hv hb (by omega) W v L h hL
  ·exact zok hE hb q (HX0 hlt) W v L h hL
  ·exact zoo hE hb q (HX0 hlt) W v L h hL
  ·exact zol hE hb q (HX0 hlt) W v L h hL
  ·exact zom hE hb q (HX0 hlt) W v L h hL
  ·exact zon hE hb q (HX0 hlt) W v L h hL
  ·exact zcP hE hv hb (by omega) W v L h hL
theorem zop {E:PE} (hE:OkE E) {z:Nat} {w0:World} (hv:R.VB w0) {b:Nat} {tv:Value}:∀(n i:Nat),E.l.length - i<=n->i<=E.l.length->∀d,Ct 63 E z w0 b tv i d (gN E 0 i d)/\Ct 89 E z w0 b tv i d (gN E 2 i d)/\Ct 117 E z w0 b tv i d (gN E 4 i d):=by
 intro n
 induction n with
 | zero =>
  intro i h1 h2 d;have hP:∀a,i<=a->a<=E.l.length->Ct 117 E z w0 b tv a d (gN E 4 a d):=fun a ha1 ha2=>zjH hE (fun q=>by omega) (zjJ hE (zhL hE hv (fun q=>by omega)))
  have hS:∀a,i<=a->a<=E.l.length->Ct 89 E z w0 b tv a d (gN E 2 a d):=fun a ha1 ha2=>zjG hE (fun a2 q1 q2=>hP a2 (by omega) q2)
  exact ⟨zjF hE hS,hS i (nL _) h2,hP i (nL _) h2⟩
 | succ n ih =>
  intro i h1 h2 d;have hP:∀a,i<=a->a<=E.l.length->Ct 117 E z w0 b tv a d (gN E 4 a d):=fun a ha1 ha2=>zjH hE (fun q=>(ih (a+1) (by omega) (by omega) (d+1)).2.2) (zjJ hE (zhL hE hv (fun q=>(ih (a+1) (by omega) (by omega) (d+1)).1)))
  have hS:∀a,i<=a->a<=E.l.length->Ct 89 E z w0 b tv a d (gN E 2 a d):=fun a ha1 ha2=>zjG hE (fun a2 q1 q2=>hP a2 (by omega) q2)
  exact ⟨zjF hE hS,hS i (nL _) h2,hP i (nL _) h2⟩
theorem zjO {E:PE} (hE:OkE E) {z:Nat} {w0:World} (hv:R.VB w0) {b:Nat} {tv:Value} {i d:Nat} (hi:i<=E.l.length):Ct 63 E z w0 b tv i d (gN E 0 i d):=(zop hE hv _ i (nL _) hi d).1
end Go.Proofs.YtkihfkcmcdiajabGreatDoor.N
namespace Go.Proofs.YtkihfkcmcdiajabGreatDoor.Q
open Go.RowKit
abbrev Rd (α:Type):=Sum α (Int×Int)
def chr (s:ByteArray) (i:Nat):Int:=if h:i<s.size then (s[i].toNat:Int) else -1
theorem zam {s:ByteArray} {i:Nat} (h:i<s.size):chr s i=(s[i].toNat:Int):=by unfold chr;rw [dif_pos h]
theorem zau {s:ByteArray} {i:Nat} (h:¬i<s.size):chr s i = -1:=by unfold chr;rw [dif_neg h]
theorem zbi (s:ByteArray) (i:Nat):-1<=chr s i/\chr s i<=255:=by
 unfold chr
 split
 ·have:=s[i].toNat_lt;omega
 ·omega
theorem zaB {s:ByteArray} {i:Nat} (h:0<=chr s i):i<s.size:=by
 by_cases hi:i<s.size
 ·exact hi
 ·rw [zau hi] at h;omega
theorem znb {s:ByteArray} {i:Nat} (h:i<s.size):0<=chr s i/\chr s i<=255:=by
 rw [zam h];have:=s[i].toNat_lt;omega
def zaI (c:Int):Int:=if 48<=c/\c<=57 then c - 48 else if 97<=c/\c<=102 then c - 87 else -1
theorem zbj (c:Int):-1<=zaI c/\zaI c<=15:=by unfold zaI;split <;> (try split) <;> omega
theorem zoq {c:Int} (h:0<=zaI c):0<=c:=by
 unfold zaI at h;split at h
 ·omega
 ·split at h <;> omega
def zbh (s:ByteArray) (i:Nat):Option (Int×Nat) :=
 if 0<=zaI (chr s (i+2))/\0<=zaI (chr s (i+3)) then some (16 * zaI (chr s (i+2))+zaI (chr s (i+3)),i+4) else none
def zaJ (s:ByteArray) (i:Nat):Option (Int×Nat) :=
 if chr s (i+1)=110 then some (10,i+2) else if chr s (i+1)=114 then some (13,i+2) else if chr s (i+1)=116 then some (9,i+2) else
 if chr s (i+1)=92∨chr s (i+1)=39∨chr s (i+1)=34 then some (chr s (i+1),i+2) else
 if chr s (i+1)=120 then zbh s i else none
def zbb (s:ByteArray) (i:Nat):Rd (Int×Nat) :=
 if chr s i=92 then (match zaJ s i with | none=>.inr (i,21) | some p=>.inl p) else
 if chr s i<32∨chr s i=127 then .inr (i,22) else .inl (chr s i,i+1)
def zbg (s:ByteArray) (m:Int):Nat->Nat->List Int->Rd (List Int×Nat)
 | 0,i,_=>.inr (i,22)
 | f+1,i,l=>if chr s i=m then .inl (l,i+1) else if s.size<=i then .inr (s.size,22) else
  match zbb s i with
  | .inr (a,c)=>.inr (a,c)
  | .inl (b,n)=>zbg s m f n (l++[b])
def zcd (s:ByteArray) (i:Int):Rd (List Int×Nat) :=
 if 65536<s.size then .inr (0,2) else
 if i<0∨(s.size:Int)<i then .inr (0,1) else
 if chr s i.toNat=39∨chr s i.toNat=34 then zbg s (chr s i.toNat) (s.size+1) (i.toNat+1) [] else .inr (i,20)
theorem zfw {s:ByteArray} {i:Nat} {b:Int} {n:Nat} (h:zbh s i=some (b,n)):0<=b/\b<=255/\i<n/\n<=s.size:=by
 unfold zbh at h
 split at h
 ·next q =>
  cases h
  have h1:=zbj (chr s (i+2));have h2:=zbj (chr s (i+3))
  have h3:=zaB (zoq q.2);exact ⟨by omega,by omega,by omega,by omega⟩
 ·cases h
theorem zfx {s:ByteArray} {i:Nat} {b:Int} {n:Nat} (h:zaJ s i=some (b,n)):0<=b/\b<=255/\i<n/\n<=s.size:=by
 unfold zaJ at h;have hb:=zbi s (i+1)
 split at h
 ·next q=>cases h;have:=zaB (s:=s) (i:=i+1) (by omega);omega
 ·split at h
  ·next q=>cases h;have:=zaB (s:=s) (i:=i+1) (by omega);omega
  ·split at h
   ·next q=>cases h;have:=zaB (s:=s) (i:=i+1) (by omega);omega
   ·split at h
    ·next q=>cases h;have:=zaB (s:=s) (i:=i+1) (by omega);omega
    ·split at h
     ·exact zfw h
     ·cases h
theorem zjP {s:ByteArray} {i:Nat} {b:Int} {n:Nat} (h:zbb s i=.inl (b,n)):0<=b/\b<=255/\i<n/\n<=s.size:=by
 unfold zbb at h
 split at h
 ·split at h
  ·cases h
  ·next p hp=>cases h;exact zfx hp
 ·split at h
  ·cases h
  ·next q=>cases h;have:=zbi s i;have:=zaB (s:=s) (i:=i) (by omega);omega
theorem zim {s:ByteArray} {i:Nat} {a c:Int} (h:zbb s i=.inr (a,c)):a=i/\(c=21∨c=22):=by
 unfold zbb at h
 split at h
 ·split at h
  ·cases h;exact ⟨rfl,.inl rfl⟩
  ·cases h
 ·split at h
  ·cases h;exact ⟨rfl,.inr rfl⟩
  ·cases h
theorem zin {s:ByteArray} {m:Int} {f i:Nat} {l:List Int} (h:chr s i=m):zbg s m (f+1) i l=.inl (l,i+1):=by
 unfold zbg;rw [iP h]
theorem zio {s:ByteArray} {m:Int} {f i:Nat} {l:List Int} (h:s.size<=i) (hm:0<=m):zbg s m (f+1) i l=.inr (s.size,22):=by
 unfold zbg;rw [iN (by rw [zau (by omega)];omega),iP h]
theorem ziq {s:ByteArray} {m:Int} {f i:Nat} {l:List Int} {a c:Int} (h:chr s i≠m) (hi:i<s.size) (hb:zbb s i=.inr (a,c)):zbg s m (f+1) i l=.inr (a,c):=by
 unfold zbg;rw [iN h,iN (by omega),hb]
theorem zgV {s:ByteArray} {m:Int} {f i:Nat} {l:List Int} {b:Int} {n:Nat} (h:chr s i≠m) (hi:i<s.size) (hb:zbb s i=.inl (b,n)):zbg s m (f+1) i l=zbg s m f n (l++[b]):=by
 rw [zbg,iN h,iN (by omega),hb]
def zat (l:List Int):ByteArray:=l.foldl (fun r n=>r.push (UInt8.ofNat n.toNat)) ByteArray.empty
theorem zbp (l:List Int):(zat l).data.toList=l.map (fun n=>UInt8.ofNat n.toNat):=by
 have key:∀(l:List Int) (s:ByteArray),(l.foldl (fun r n=>r.push (UInt8.ofNat n.toNat)) s).data.toList=s.data.toList++l.map (fun n=>UInt8.ofNat n.toNat):=by
  intro l
  induction l with
  | nil=>intro s;simp
  | cons b l ih=>intro s;rw [List.foldl_cons,ih];simp [ByteArray.push]
 have:=key l ByteArray.empty
 simpa [zat] using this
def byV:Rd (Int×Nat)->Value
 | .inl (b,n)=>.tuple #[.int .u8 b,.int .i64 n,.int .i64 0]
 | .inr (_,c)=>.tuple #[.int .u8 0,.int .i64 0,.int .i64 c]
def esV:Option (Int×Nat)->Value
 | some (b,n)=>.tuple #[.int .u8 b,.int .i64 n,.int .i64 0]
 | none=>.tuple #[.int .u8 0,.int .i64 0,.int .i64 21]
def cuV:Rd (List Int×Nat)->Value
 | .inl (l,n)=>.tuple #[.string (zat l),.int .i64 n,.agg #[.int .i64 0,.int .i64 0]]
 | .inr (a,c)=>.tuple #[.string ⟨#[]⟩,.int .i64 0,.agg #[.int .i64 a,.int .i64 c]]
def byl (s:ByteArray):List Int:=s.data.toList.map fun c=>(c.toNat:Int)
theorem zjQ (s:ByteArray):(byl s).length=s.size:=by unfold byl;rw [List.length_map];rfl
theorem zor (s:ByteArray) (k:Nat) (h:k<s.size):(byl s)[k]?=some (s[k].toNat:Int):=by
 unfold byl;rw [List.getElem?_map,gE (by simpa using h)];rfl
theorem zeA (l:List Int):zat l=⟨(l.map fun n=>UInt8.ofNat n.toNat).toArray⟩:=by
 have h:=zbp l
 cases ht:zat l with
 | mk d =>
  rw [ht] at h
  cases d with
  | mk x=>simp at h;rw [h]
theorem zir (s:ByteArray):zat (byl s)=s:=by
 rw [zeA];unfold byl;rw [List.map_map];have:(List.map ((fun n:Int=>UInt8.ofNat n.toNat)∘fun c:UInt8=>(c.toNat:Int)) s.data.toList)=s.data.toList:=by
  conv=>rhs;rw [<-List.map_id s.data.toList]
  refine List.map_congr_left fun c _=>?_
  simp
 rw [this]
end Go.Proofs.YtkihfkcmcdiajabGreatDoor.Q
namespace Go.Proofs.YtkihfkcmcdiajabGreatDoor
open Go.RowKit
theorem zis (s:ByteArray) (w:World):(convert 9 104 (.string s)).run Tryz.prog w=.ok (.slice (some ⟨w.heap.size,0,none⟩) s.size (grownCap w s.size 0 5)) (Lib.bytesWorld w 5 s) :=
 Lib.run_convert_string_bytes w 9 104 5 s Tryz.underlying9 Tryz.underlying104 Tryz.underlying5
theorem zit (s:ByteArray) (w:World) (c:Nat):(convert 104 9 (.slice (some ⟨w.heap.size,0,none⟩) s.size c)).run Tryz.prog (Lib.bytesWorld w 5 s)=.ok (.string s) (Lib.bytesWorld w 5 s):=by
 rw [run_convert_bytes_string _ 104 9 5 _ _ _ Tryz.underlying104 Tryz.underlying5 Tryz.underlying9];have h:=run_bytesToString (P:=Tryz.prog) (Lib.bytesWorld w 5 s) ⟨w.heap.size,0,none⟩ s.size c (Q.byl s) ?_
 ·rw [h];exact congrArg (fun x=>Result.ok (Value.string x) _) (Q.zir s)
 ·have h2:=run_loadCells_list (P:=Tryz.prog) (w:=Lib.bytesWorld w 5 s) ⟨w.heap.size,0,none⟩ ((Q.byl s).map (Value.int .u8)) (fun j u hj=>by
   rw [List.getElem?_map] at hj;have hlt:j<s.size:=by
    by_cases q:j<s.size
    ·exact q
    ·rw [List.getElem?_eq_none (by rw [Q.zjQ];omega)] at hj;cases hj
   rw [Q.zor s j hlt] at hj
   cases hj
   have h3:=Lib.bytesWorld_cell w 5 s j hlt;rw [Addr.add_lit,Nat.zero_add,h3];have:s.data.toList.getD j 0=s[j]:=by
    rw [List.getD_eq_getElem?_getD,gE (by simpa using hlt)];rfl
   rw [this])
  rwa [List.length_map,Q.zjQ] at h2
theorem zfi (s:ByteArray) (w:World):Cl 105 #[.string s] w (rB w (.string s)):=by
 have hc1:=zis s;have hc2:=zit s;go_enter Tryz.func105,Tryz.ntmps105;go_wp2_with fail;go_ret
 exact ⟨rfl,Lib.bytesWorld_below w 5 s⟩
def gtK (k:Int):Int:=if k=4 then 999999 else if k=13∨k=14∨k=15 then 50 else 0
theorem zd1 (k:Int) (w:World):Cl 107 #[.int .i64 k] w (rU w (.int .i64 (gtK k))):=by
 by_cases h4:k=4
 ·subst h4;go_enter Tryz.func107,Tryz.ntmps107;go_wp2_with fail;go_ret;exact ⟨rfl,rfl⟩
 by_cases h13:k=13
 ·subst h13;go_enter Tryz.func107,Tryz.ntmps107;go_wp2_with fail;go_ret;exact ⟨rfl,rfl⟩
 by_cases h14:k=14
 ·subst h14;go_enter Tryz.func107,Tryz.ntmps107;go_wp2_with fail;go_ret;exact ⟨rfl,rfl⟩
 by_cases h15:k=15
 ·subst h15;go_enter Tryz.func107,Tryz.ntmps107;go_wp2_with fail;go_ret;exact ⟨rfl,rfl⟩
 have HE:Hid (gtK k=0):=by show gtK k=0;unfold gtK;rw [iN h4,iN (by omega)]
 have v4:(k==4)=false:=bF h4;have v13:(k==13)=false:=bF h13;have v14:(k==14)=false:=bF h14;have v15:(k==15)=false:=bF h15;clear h4 h13 h14 h15;go_enter Tryz.func107,Tryz.ntmps107;go_wp2_with fail;go_ret
 exact ⟨by rw [HE.out];rfl,rfl⟩
theorem zcQ (s:ByteArray) (base:Int) (hb:0<=base/\base<=16) (hs:s.size<=7) (w:World):Cl 106 #[.string s,.int .i64 base] w (rU w (.int .i64 (zaF s 0 base s.size))):=by
 have HX:Hid (∀k (h:k<s.size) w,Cl 121 #[.string ⟨#[48,49,50,51,52,53,54,55,56,57,97,98,99,100,101,102]⟩,.int .u8 (s[k].toNat:Int)] w (rU w (.int .i64 (zaI (chr s k))))):=fun k h w=>by
  rw [zam h];exact zci s[k] w
 have HB:Hid (∀k,k<=7->-268435456<=zaF s 0 base k/\zaF s 0 base k<=268435456):=fun k hk=>by
  have h1:=zi9 s 0 base hb k;have h2:(16:Int) ^ k<=16 ^ 7:=by
   have:(16:Nat) ^ k<=16 ^ 7:=Nat.pow_le_pow_right (by omega) hk
   exact_mod_cast this
  omega
 go_enter Tryz.func106,Tryz.ntmps106;go_wp2_with fail;go_loopw [5,9] (fun v t wr=>∃k:Nat,k<=s.size/\t=.int .i64 k/\v=.int .i64 (zaF s 0 base k)/\wr=w) (fun _ t _=>s.size - (intOf t).toNat)
 case atStart=>exact ⟨0,by omega,by go_num,rfl,rfl⟩
 case round =>
  obtain ⟨k,hk,rfl,rfl,rfl⟩:=hrel;by_cases hlt:k<s.size
  ·have z0:(0:Int)<=(k:Int):=by omega
   have z1:(k:Int)<(s.size:Int):=by omega
   have h1:=HB k (by omega);have h2:=HB (k+1) (by omega);have HE:Hid (zaF s 0 base (k+1)=base * zaF s 0 base k+zaI (chr s k)):=by show zaF s 0 base (k+1)=_;rw [zaF,Nat.zero_add,Int.mul_comm]
   have hx:=zbj (chr s k);have h3:-4294967296<=base * zaF s 0 base k/\base * zaF s 0 base k<=4294967296:=by
    rw [HE.out] at h2;omega
   have u1:IntKind.i64.wrap (base * zaF s 0 base k)=base * zaF s 0 base k:=by rw [wI];omega
   have u2:IntKind.i64.wrap (base * zaF s 0 base k+zaI (chr s k))=zaF s 0 base (k+1):=by rw [HE.out,wI];omega
   have HXk:Hid (∀w,Cl 121 #[.string ⟨#[48,49,50,51,52,53,54,55,56,57,97,98,99,100,101,102]⟩,.int .u8 (s[k].toNat:Int)] w (rU w (.int .i64 (zaI (chr s k))))):=HX k hlt;clear HX HB HE h1 h2 h3;go_wp2_with fail;refine (HXk _).mono ?_;rintro e w ⟨rfl,rfl⟩;clear HXk;go_wp2_with fail;go_roundw
   case rel=>exact ⟨k+1,by omega,by go_num,rfl,trivial⟩
   case measure=>simp [intOf];omega
  ·obtain rfl:k=s.size:=by omega
   have z1:¬(s.size:Int)<(s.size:Int):=by omega
   clear HX HB;go_wp2_with fail;go_ret
   exact ⟨rfl,rfl⟩
def zcE (s:ByteArray) (b:Nat):Sum Tk (Nat×Int):=if 32<spN nmB s b - b then .inr (b,2) else .inl ⟨1,0,b,spN nmB s b,s.extract b (spN nmB s b),0,0,0,0⟩
theorem zcR (s:ByteArray) (b:Nat) (hs:s.size<=140737488355000) (hb:b<=s.size) (w:World):Cl 79 #[.string s,.int .i64 b] w (rB w (za1 (zcE s b))):=by
 have HR:Hid (∀w,Cl 102 #[.string s,.int .i64 b,.func (.func 103) #[] #[]] w (rU w (.int .i64 (spN nmB s b)))):=fun w=>zgL s b (by omega) hb w
 have HF:Hid (∀i e w,Cl 104 #[.int .i64 i,.int .i64 e] w fun e' w'=>e'=.returned (zaR tk0 i e)/\bW w w'):=fun i e w=>zaK i e w
 have HC:Hid (∀t w,Cl 105 #[.string t] w (rB w (.string t))):=fun t w=>zfi t w
 have HX:Hid (BX w ((w.alloc (tkO tk0)).alloc (fxO 0 0)) tk0 0 0):=BX.new w;have hge:=zbe nmB s (by decide) b;have hle:=zbF nmB s (by decide) b (by omega);have HU:Hid (zcE s b=if 32<spN nmB s b - b then .inr (b,2) else .inl ⟨1,0,b,spN nmB s b,s.extract b (spN nmB s b),0,0,0,0⟩):=rfl;generalize spN nmB s b=n at *;obtain ⟨m,hm⟩:∃m,m=n - b:=⟨_,rfl⟩;have u1:IntKind.i64.wrap ((n:Int) - (b:Int))=(m:Int):=by rw [wI];omega
 have z0:(0:Int)<=(b:Int):=by omega
 have z1:(b:Int)<=(n:Int):=by omega
 have z2:(n:Int)<=(s.size:Int):=by omega
 rw [<-hm] at HU;clear hm;by_cases h32:32<m
 ·have HE:Hid (zcE s b=.inr (b,2)):=by show zcE s b=_;rw [HU.out,iP h32]
  have t2:decide (32<m)=true:=decide_eq_true h32;clear HU HC;go_enter Tryz.func79,Tryz.ntmps79;go_wp2_with fail;refine (HR _).mono ?_;rintro e w2 ⟨rfl,rfl⟩;clear HR;go_wp2_with fail;refine (HF _ _ _).mono ?_;rintro e w3 ⟨rfl,b3⟩;have HX3:=hO (HX.below b3);clear b3 HX HF;obtain ⟨f0,f1',f2',f3,f4,f5,f6,f7,f8,g0,g1⟩:=HX3.fz;obtain ⟨c0,c1,c2,c3,c4,c5,c6,c7,c8,d0,d1⟩:=HX3.cells;unfold zaR;go_wp2_with fail;have HP:=HX3.put tk0 b 2;exact zao rfl rfl rfl rfl HP ⟨by rw [HE.out];rfl,HP.b⟩
 ·have HE:Hid (zcE s b=.inl ⟨1,0,b,n,s.extract b n,0,0,0,0⟩):=by show zcE s b=_;rw [HU.out,iN h32]
  have t2:decide (32<m)=false:=dF h32;clear HU HF;go_enter Tryz.func79,Tryz.ntmps79;go_wp2_with fail;refine (HR _).mono ?_;rintro e w2 ⟨rfl,rfl⟩;clear HR;go_wp2_with fail;refine (HC _ _).mono ?_;rintro e w3 ⟨rfl,b3⟩;have HX3:=hO (HX.below b3);clear b3 HX HC;obtain ⟨f0,f1',f2',f3,f4,f5,f6,f7,f8,g0,g1⟩:=HX3.fz;obtain ⟨c0,c1,c2,c3,c4,c5,c6,c7,c8,d0,d1⟩:=HX3.cells;go_wp2_with fail;have HP:=HX3.put ⟨1,0,b,n,s.extract b n,0,0,0,0⟩ 0 0;exact zao rfl rfl rfl rfl HP ⟨by rw [HE.out];rfl,HP.b⟩
end Go.Proofs.YtkihfkcmcdiajabGreatDoor
