import Derived.Test.YtkihfkcmcdiajabGreatDoorPo26
set_option maxRecDepth 100000
set_option maxHeartbeats 8000000
namespace Go.Proofs.YtkihfkcmcdiajabGreatDoor
open Go.RowKit
theorem lg_in {s:ByteArray} {b:Nat} (h:lgG s b):b+2<s.size:=by
 have h3:=h.2.2.1;by_cases q:b+2<s.size
 ·exact q
 ·rw [zau q] at h3;exact absurd h3 (by decide)
theorem zll (s:ByteArray) (b:Nat) (t:Tk) (hb:b<s.size) (h:zbG (sgR s) s b=.inl t):∃e:Nat,t.en=e/\b<e/\e<=s.size:=by
 by_cases q:lgG s b
 ·have h1:=lg_in q
  rw [((zc3 s b).1 q).2] at h
  cases h
  exact ⟨b+2,rfl,by omega,by omega⟩
 ·rw [<-(zc3 s b).2 q] at h
  exact zg8 s b t hb h
theorem zpC (s:ByteArray) (b:Nat) (p:Nat×Int) (h:zbG (sgR s) s b=.inr p):p.2≠0:=by
 by_cases q:lgG s b
 ·rw [((zc3 s b).1 q).2] at h;cases h
 ·rw [<-(zc3 s b).2 q] at h;exact zg7 s b p h
theorem ziN (s:ByteArray):∀(f:Nat) (out:List Tk) (i:Nat),s.size<f+i->zbT (zaL s) s f out i=zbT (zbG (sgR s) s) s f out i:=by
 intro f
 induction f with
 | zero=>intro out i h;rfl
 | succ f ih =>
  intro out i h;rw [zbT,zbT];by_cases hi:i<s.size
  ·rw [iP hi,iP hi]
   by_cases q:lgG s i
   ·have h1:=lg_in q
    obtain ⟨e1,e2⟩:=(zc3 s i).1 q;rw [e1,e2];dsimp only;have hd:=q.2.2.1;have hg:zbE s (i+2)=i+2:=by
     rw [zdz,iP h1];have hr:65<=chr s (i+2):=by
      unfold hdB at hd;simp at hd
      omega
     rw [iN (by omega),iN (by omega)]
    obtain ⟨f,rfl⟩:∃g,f=g+1:=⟨f - 1,by omega⟩
    show _=zbT (zbG (sgR s) s) s (f+1) (out++[nlT i (i+2)]) (zbE s (i+2))
    rw [hg,zbT,iP h1];have ho:zbG (sgR s) s (i+2)=.inr (i+2,2):=by
     unfold zbG;rw [iP hd,iP (by have:=q.2.2.2.1;omega)]
    rw [ho]
   ·rw [(zc3 s i).2 q]
    cases ho:zbG (sgR s) s i with
    | inr p=>rfl
    | inl t =>
     obtain ⟨e,e1,e2,e3⟩:=zll s i t hi ho;have hge:=zha s e e3;dsimp only;exact ih _ _ (by rw [e1,Int.toNat_natCast];omega)
  ·rw [iN hi,iN hi]
theorem zm1 (s:ByteArray):zbf (zaL s) s=zbf (zbG (sgR s) s) s:=by
 unfold zbf
 split
 ·rfl
 ·exact ziN s _ _ _ (by omega)
theorem zcb (s:ByteArray) (hs:s.size<=140737488355000) (w:World):Cl 13 #[.string s] w fun e w'=>LxV w w' (zbf (zaL s) s) e/\bW w w':=by
 rw [zm1];exact lex_of (zbG (sgR s) s) s hs (fun b hb _ w=>one_of (sgR s) s b hs hb (fun w=>zmW s b hs hb w) w) (fun b t hb h=>zll s b t hb h) (fun b q h=>zpC s b q h) w
end Go.Proofs.YtkihfkcmcdiajabGreatDoor
namespace Go.Proofs.YtkihfkcmcdiajabGreatDoor.N
open Go.RowKit
def PgV (w':World) (r:Sum (List (ByteArray×List Nd)) (Int×Int)) (e:Ending):Prop:=match r with
 | .inr p=>e=.returned (.tuple #[.agg #[.slice none 0 0],.agg #[.int .i64 p.1,.int .i64 p.2]])
 | .inl gs=>∃u,e=.returned (.tuple #[.agg #[u],.agg #[.int .i64 0,.int .i64 0]])/\GrR w' u gs
theorem zgw {fn:Func} {R:Ending->World->Prop} {act:Act} {W:World} {j k:Nat} {u:Value} {p c:Int} (hF:fn.results=#[.cell 2 24,.cell 3 27]) (hd:act.defers=[]) (h2:act.tmps.getD 2 undef=.pointer (some ⟨j,0,none⟩)) (h3:act.tmps.getD 3 undef=.pointer (some ⟨k,0,none⟩)) (hG:GX W j u) (hT:FX W k p c) (hR:R (.returned (.tuple #[.agg #[u],.agg #[.int .i64 p,.int .i64 c]])) W):bodyPost Tryz.prog fn R .ret act W:=by
 have c0:=hT.c0;have c1:=hT.c1;have g0:=hG.cl;refine bodyPost_ret (v:=.tuple #[.agg #[u],.agg #[.int .i64 p,.int .i64 c]]) ?_ hd hR;simp only [Array.getD_eq_getD_getElem?] at h2 h3;simp [results,hF,go_sem,h2,h3,c0,c1,g0]
structure PB (w W:World):Prop where
 b:bW w W
 g:GX W w.heap.size (.slice none 0 0)
 f:FX W (w.heap.size+1) 0 0
theorem PB.later {w W W':World} (h:PB w W) (hb:bW W W'):PB w W':=⟨h.b.trans (hb.mono h.b.size),h.g.below hb,h.f.below hb⟩
theorem PB.new (w:World):PB w ((w.alloc (.cells #[.slice none 0 0] 24)).alloc fxZ) :=
 ⟨((bR _ _).alloc (nL _) _).alloc (by rw [sA];omega) _,(GX.mk (heap_alloc_new w _)).below (zaa _ _),⟨by have h:=heap_alloc_new (w.alloc (.cells #[.slice none 0 0] 24)) fxZ;rw [sA] at h;exact h⟩⟩
abbrev pbW (w W:World) (u:Value) (p c:Int):World:=((W.setCell ⟨w.heap.size,0,none⟩ u).setCell ⟨w.heap.size+1,0,none⟩ (.int .i64 p)).setCell ⟨w.heap.size+1,1,none⟩ (.int .i64 c)
theorem zlm {w W:World} {u:Value} {p c:Int} {j:Nat} (h1:j≠w.heap.size) (h2:j≠w.heap.size+1):(pbW w W u p c).heap[j]?=W.heap[j]? :=
 (bS _ _ _ _ h2).trans ((bS _ _ _ _ h2).trans (bS _ _ _ _ h1))
theorem PB.fin {w W:World} (h:PB w W) (u:Value) (p c:Int):GX (pbW w W u p c) w.heap.size u/\FX (pbW w W u p c) (w.heap.size+1) p c/\bW w (pbW w W u p c):=by
 have q1:GX (W.setCell ⟨w.heap.size,0,none⟩ u) w.heap.size u:=h.g.set u;have q2:FX (W.setCell ⟨w.heap.size,0,none⟩ u) (w.heap.size+1) 0 0:=⟨(bS _ _ _ _ (by show w.heap.size+1≠w.heap.size;omega)).trans h.f.heap⟩;refine ⟨q1.same ((bS _ _ _ _ (by show w.heap.size≠w.heap.size+1;omega)).trans (bS _ _ _ _ (by show w.heap.size≠w.heap.size+1;omega))),zlh q2 p c,?_⟩;exact ((h.b.setCell (p:=⟨w.heap.size,0,none⟩) (nL _) _).setCell (p:=⟨w.heap.size+1,0,none⟩) (Nat.le_succ _) _).setCell (p:=⟨w.heap.size+1,1,none⟩) (Nat.le_succ _) _
theorem zhp {W:World} {b:Nat} {p e:Int} (h:FX W b p e):FX W.drew b p e:=⟨h.heap⟩
theorem Rws.ge {E:PE} {z:Nat} {w0 W:World} {u pv:Value} {ov:List (Rl×Value)} (h:Rws E z w0 W u pv ov) {j:Nat} (hj:u.ownBlock=some j∨pv.ownBlock=some j∨∃x∈ov,x.2.ownBlock=some j):w0.heap.size<=j:=by
 rcases hj with q | q | ⟨x,hx,q⟩
 ·exact (h.o.lt j q).1
 ·exact (h.p.lt j q).1
 ·exact ((h.b.e x hx).lt j q).1
theorem zgx {E:PE} (hE:OkE E) {rs:List Rl} (h:rdN E=.inl rs):(∀r∈rs,∀n∈r.2.2,n.tx.size<=65536)/\rs.length<=65536/\∀r∈rs,r.2.2.length<=2000000000000:=by
 refine ⟨zk5 hE h,?_⟩
 cases hr:ruB E 0 with
 | true =>
  unfold rdN at h;rw [iP hr] at h;have:=znv hE _ _ _ _ (Nat.zero_le _) (nL _) (fun r hr=>by cases hr) h;exact ⟨Nat.le_trans this.1 hE.len,this.2⟩
 | false =>
  rw [zgo (by rw [hr];decide)] at h;refine ⟨?_,fun r hr=>(zpq hE h r hr).2⟩;unfold alN at h
  cases hx:exN E 0 with
  | inr q=>rw [hx] at h;cases h
  | inl p =>
   rw [hx] at h;dsimp only at h
   split at h
   ·cases h
   ·cases h;simp
theorem zhq (s:ByteArray) (hl:65536<s.size) (hs:s.size<=140737488355000) (w:World):Cl 4 #[.string s] w (rB w (.tuple #[.agg #[.slice none 0 0],.agg #[.int .i64 0,.int .i64 2]])):=by
 have HP:=hO (PB.new w);obtain ⟨w1,hw1⟩:∃x,(w.alloc (.cells #[.slice none 0 0] 24)).alloc fxZ=x:=⟨_,rfl⟩;rw [hw1] at HP;have HE1:=hO hw1;have hs1:w1.heap.size=w.heap.size+2:=by rw [<-hw1,sA,sA]
 have z1:(65536:Int)<(s.size:Int):=by omega
 clear hw1 hl hs hs1;have a0:=HP.g.cl;have a1:=HP.g.fz;have b0:=HP.f.c0;have b1:=HP.f.c1;have b2:=HP.f.f0;have b3:=HP.f.f1;go_enter Tryz.func4,Tryz.ntmps4;go_wp2_with (rw [HE1.out])
 have hF:=HP.fin (.slice none 0 0) 0 2;refine zgw rfl rfl rfl rfl hF.1 hF.2.1 ?_;exact ⟨rfl,hF.2.2⟩
theorem ziO (s:ByteArray) (hl:¬65536<s.size) (w:World) (q:Nat×Int) (hq:zbf (zaL s) s=.inr q):Cl 4 #[.string s] w (rB w (.tuple #[.agg #[.slice none 0 0],.agg #[.int .i64 q.1,.int .i64 q.2]])):=by
 have HP:=hO (PB.new w);obtain ⟨w1,hw1⟩:∃x,(w.alloc (.cells #[.slice none 0 0] 24)).alloc fxZ=x:=⟨_,rfl⟩;rw [hw1] at HP;have HE1:=hO hw1;have hs1:w1.heap.size=w.heap.size+2:=by rw [<-hw1,sA,sA]
 have HX:Hid (∀W,Cl 13 #[.string s] W (rB W (.tuple #[.slice none 0 0,.int .i64 q.1,.int .i64 q.2]))):=fun W=>by
  have:=zcb s (by omega) W;rw [hq] at this;exact this
 have z1:¬(65536:Int)<(s.size:Int):=by omega
 have t1:(q.2 != 0)=true:=by simpa using (zeN hq).2
 obtain ⟨q1,q2⟩:=q;dsimp only at *;clear hw1 hl hs1 hq;go_enter Tryz.func4,Tryz.ntmps4;go_wp2_with (rw [HE1.out])
 refine (HX _).mono ?_;rintro e w2 ⟨rfl,hb⟩;have HP2:=hO (HP.later hb);clear hb HX HP HE1;have a0:=HP2.g.cl;have a1:=HP2.g.fz;have b0:=HP2.f.c0;have b1:=HP2.f.c1;have b2:=HP2.f.f0;have b3:=HP2.f.f1;go_wp2_with fail;have hF:=HP2.fin (.slice none 0 0) q1 q2;refine zgw rfl rfl rfl rfl hF.1 hF.2.1 ?_;exact ⟨rfl,hF.2.2⟩
theorem ziP (s:ByteArray) (h65:¬65536<s.size) (w:World) (l:List Tk) (hl:zbf (zaL s) s=.inl l) (q:Nat×Int) (hq:rdN (mkE l)=.inr q):Cl 4 #[.string s] w (rB w (.tuple #[.agg #[.slice none 0 0],.agg #[.int .i64 (plA (mkE l) s.size q.1),.int .i64 q.2]])):=by
 have HP:=hO (PB.new w);obtain ⟨w1,hw1⟩:∃x,(w.alloc (.cells #[.slice none 0 0] 24)).alloc fxZ=x:=⟨_,rfl⟩;rw [hw1] at HP;have HE1:=hO hw1;have hs1:w1.heap.size=w.heap.size+2:=by rw [<-hw1,sA,sA]
 have hE:=zde hl;have HX:Hid (∀W,Cl 13 #[.string s] W fun e w'=>(∃v,e=.returned (.tuple #[v,.int .i64 0,.int .i64 0])/\w'.ownsRow W.heap.size 69 9 v l.length (tkc l))/\bW W w'):=fun W=>by
  have:=zcb s (by omega) W;rw [hl] at this;exact this
 have HRd:Hid (∀W2 v,W2.ownsRow w1.heap.size 69 9 v l.length (tkc l)->bW w1 W2->Cl 14 #[rdV v 0 s.size 0 (.slice none 0 0) 0 0] W2 fun e W'=>RdD (mkE l) s.size w1 v (rdN (mkE l)) e W'):=fun W2 v ho hb=>by
  obtain ⟨A,c,hv⟩:=zaf ho;subst hv;exact zeR hE ⟨hb,ho,World.ownsRow_nil _ _ _ _,Nat.zero_le _,Nat.zero_le _⟩
 have z1:¬(65536:Int)<(s.size:Int):=by omega
 have hq2:q.2≠0:=by have:=(znR hq).2;omega
 rw [hq] at HRd;obtain ⟨p1,hp1⟩:∃x,plA (mkE l) s.size q.1=x:=⟨_,rfl⟩;obtain ⟨p2,hp2⟩:∃x,q.2=x:=⟨_,rfl⟩;rw [hp1,hp2];rw [hp2] at hq2;have HPq:Hid (plA (mkE l) s.size q.1=p1/\q.2=p2):=⟨hp1,hp2⟩;have HOk:Hid (∀(At:Option Addr) (nt ct:Nat) (i z d:Int) (A:Option Addr) (n c:Nat) (p:Int) W,Cl 15 #[rdV (.slice At nt ct) i z d (.slice A n c) p p2] W (rB W (.bool false))):=fun At nt ct i z d A n c p W=>by
  have:=zaP At nt ct i z d A n c p p2 W;rw [show (p2==0)=false from by simpa using hq2] at this;exact this
 clear hw1 hs1 hE hl hq h65 hp1 hp2 hq2;go_enter Tryz.func4,Tryz.ntmps4;go_wp2_with (rw [HE1.out])
 refine (HX _).mono ?_;rintro e w2 ⟨⟨v,rfl,ho⟩,hb⟩;obtain ⟨A,ct,hv⟩:=zaf ho;subst hv;have HP2:=hO (HP.later hb);have HO2:=hO ho;have HB2:Hid (bW w1 w2):=hb;clear ho hb HX HE1;go_wp2_with fail;refine (HRd _ _ HO2.out HB2.out).mono ?_;intro e w3 hR;obtain ⟨i3,d3,A3,l3,c3,A4,l4,c4,pv,rfl,hb3⟩:=hR;rw [HPq.1,HPq.2];have HP3:Hid (PB w w3):=⟨HP.b.trans (hb3.mono HP.b.size),HP.g.below hb3,HP.f.below hb3⟩;clear hb3 HRd HO2 HB2 HP2 HP HPq;obtain ⟨w4,hw4⟩:∃x,(w3.alloc (.cells #[.slice A l.length ct,.int .i64 i3,.int .i64 s.size,.int .i64 d3,.slice A3 l3 c3,.int .i64 p1,.int .i64 p2] 44)).alloc (.cells #[.slice A4 l4 c4] 24)=x:=⟨_,rfl⟩;have hb4:bW w3 w4:=by rw [<-hw4];exact ((bR _ _).alloc (nL _) _).alloc (by rw [sA];omega) _
 have HD4:Hid (DB w4 w3.heap.size (.slice A l.length ct) (.int .i64 i3) (.int .i64 s.size) (.int .i64 d3) (.slice A3 l3 c3) (.int .i64 p1) (.int .i64 p2)):=by rw [<-hw4];exact (DB.mk (heap_alloc_new w3 _)).below (zaa _ _)
 have HG4:Hid (GX w4 (w3.heap.size+1) (.slice A4 l4 c4)):=by rw [<-hw4];exact ⟨by have h:=heap_alloc_new (w3.alloc (.cells #[.slice A l.length ct,.int .i64 i3,.int .i64 s.size,.int .i64 d3,.slice A3 l3 c3,.int .i64 p1,.int .i64 p2] 44)) (.cells #[.slice A4 l4 c4] 24);rw [sA] at h;exact h⟩
 have HE4:=hO hw4;have HP4:=hO (HP3.later hb4);obtain ⟨k0,k1,k2,k3,k4,k5,k6⟩:=HD4.cl;clear hw4 hb4 HP3;go_wp2_with (rw [HE4.out])
 refine (HOk _ _ _ _ _ _ _ _ _ _ _).mono ?_;rintro e w5 ⟨rfl,hb⟩;have HD5:=hO (HD4.below hb);have HP5:=hO (HP4.later hb);clear hb HOk HD4 HP4 HG4 HE4 k0 k1 k2 k3 k4 k5 k6;obtain ⟨k0,k1,k2,k3,k4,k5,k6⟩:=HD5.cl;have a0:=HP5.g.cl;have a1:=HP5.g.fz;have b0:=HP5.f.c0;have b1:=HP5.f.c1;have b2:=HP5.f.f0;have b3:=HP5.f.f1;go_wp2_with fail;go_region
 all_goals
  go_wp2_with fail;have hF:=HP5.fin (.slice none 0 0) p1 p2;refine zgw rfl rfl rfl rfl hF.1.drew (zhp hF.2.1) ?_;exact ⟨rfl,hF.2.2.drew⟩
theorem zln (s:ByteArray) (h65:¬65536<s.size) (w:World) (l:List Tk) (hl:zbf (zaL s) s=.inl l) (rs:List Rl) (hq:rdN (mkE l)=.inl rs) (p:Int×Int) (hsz:szR (mkE l) s.size rs=some p):Cl 4 #[.string s] w (rB w (.tuple #[.agg #[.slice none 0 0],.agg #[.int .i64 p.1,.int .i64 p.2]])):=by
 have HP:=hO (PB.new w);obtain ⟨w1,hw1⟩:∃x,(w.alloc (.cells #[.slice none 0 0] 24)).alloc fxZ=x:=⟨_,rfl⟩;rw [hw1] at HP;have HE1:=hO hw1;have hs1:w1.heap.size=w.heap.size+2:=by rw [<-hw1,sA,sA]
 have hE:=zde hl;have HX:Hid (∀W,Cl 13 #[.string s] W fun e w'=>(∃v,e=.returned (.tuple #[v,.int .i64 0,.int .i64 0])/\w'.ownsRow W.heap.size 69 9 v l.length (tkc l))/\bW W w'):=fun W=>by
  have:=zcb s (by omega) W;rw [hl] at this;exact this
 have HRd:Hid (∀W2 v,W2.ownsRow w1.heap.size 69 9 v l.length (tkc l)->bW w1 W2->Cl 14 #[rdV v 0 s.size 0 (.slice none 0 0) 0 0] W2 fun e W'=>RdD (mkE l) s.size w1 v (rdN (mkE l)) e W'):=fun W2 v ho hb=>by
  obtain ⟨A,c,hv⟩:=zaf ho;subst hv;exact zeR hE ⟨hb,ho,World.ownsRow_nil _ _ _ _,Nat.zero_le _,Nat.zero_le _⟩
 have z1:¬(65536:Int)<(s.size:Int):=by omega
 have hbd:=zgx hE hq;rw [hq] at HRd;have HSd:Hid (∀W u pv ov,Rws (mkE l) s.size w1 W u pv ov->ov.map (·.1)=rs->Cl 16 #[.agg #[u],pv] W (rB W (.agg #[.int .i64 p.1,.int .i64 p.2]))):=fun W u pv ov h1 h2=>by
  have:=znD h1 (fun x hx=>hbd.1 _ (by rw [<-h2];exact List.mem_map.2 ⟨x,hx,rfl⟩)) (fun x hx=>hbd.2.2 _ (by rw [<-h2];exact List.mem_map.2 ⟨x,hx,rfl⟩)) (by rw [<-h2,List.length_map] at hbd;exact hbd.2.1);rw [h2,hsz] at this;exact this
 have t1:(p.2 != 0)=true:=by simpa using (zh3 hsz).1
 obtain ⟨p1,p2⟩:=p;dsimp only at *;clear hs1;have HOk:Hid (∀(At:Option Addr) (nt ct:Nat) (i z d:Int) (A:Option Addr) (n c:Nat) (p:Int) W,Cl 15 #[rdV (.slice At nt ct) i z d (.slice A n c) p 0] W (rB W (.bool true))):=fun At nt ct i z d A n c p W=>zaP At nt ct i z d A n c p 0 W
 clear hw1 hE hl hq h65 hbd hsz;go_enter Tryz.func4,Tryz.ntmps4;go_wp2_with (rw [HE1.out])
 refine (HX _).mono ?_;rintro e w2 ⟨⟨v,rfl,ho⟩,hb⟩;obtain ⟨A,ct,hv⟩:=zaf ho;subst hv;have HP2:=hO (HP.later hb);have HO2:=hO ho;have HB2:Hid (bW w1 w2):=hb;clear ho hb HX HE1;go_wp2_with fail;refine (HRd _ _ HO2.out HB2.out).mono ?_;intro e w3 hR;obtain ⟨i3,d3,A3,l3,c3,u,pv,ov,rfl,hrs,ho,hbds,hpv,hb3⟩:=hR;obtain ⟨A4,c4,hu⟩:=zaf ho;obtain ⟨A5,c5,hp5⟩:=zaf hpv;subst hu hp5;obtain ⟨l4,hl4⟩:∃x,x=ov.length:=⟨_,rfl⟩;have HR3:Hid (Rws (mkE l) s.size w1 w3 (.slice A4 l4 c4) (.slice A5 l4 c5) ov):=by rw [hl4];exact ⟨ho,hpv,hbds⟩
 have HP3:Hid (PB w w3):=⟨HP.b.trans (hb3.mono HP.b.size),HP.g.below hb3,HP.f.below hb3⟩;have HRs:=hO hrs;rw [<-hl4];clear hb3 HRd HO2 HB2 HP2 HP ho hbds hpv hrs hl4;obtain ⟨w4,hw4⟩:∃x,(w3.alloc (.cells #[.slice A l.length ct,.int .i64 i3,.int .i64 s.size,.int .i64 d3,.slice A3 l3 c3,.int .i64 0,.int .i64 0] 44)).alloc (.cells #[.slice A4 l4 c4] 24)=x:=⟨_,rfl⟩;have hb4:bW w3 w4:=by rw [<-hw4];exact ((bR _ _).alloc (nL _) _).alloc (by rw [sA];omega) _
 have HD4:Hid (DB w4 w3.heap.size (.slice A l.length ct) (.int .i64 i3) (.int .i64 s.size) (.int .i64 d3) (.slice A3 l3 c3) (.int .i64 0) (.int .i64 0)):=by rw [<-hw4];exact (DB.mk (heap_alloc_new w3 _)).below (zaa _ _)
 have HG4:Hid (GX w4 (w3.heap.size+1) (.slice A4 l4 c4)):=by rw [<-hw4];exact ⟨by have h:=heap_alloc_new (w3.alloc (.cells #[.slice A l.length ct,.int .i64 i3,.int .i64 s.size,.int .i64 d3,.slice A3 l3 c3,.int .i64 0,.int .i64 0] 44)) (.cells #[.slice A4 l4 c4] 24);rw [sA] at h;exact h⟩
 have HE4:=hO hw4;have HP4:=hO (HP3.later hb4);have HR4:=hO (HR3.later hb4);obtain ⟨k0,k1,k2,k3,k4,k5,k6⟩:=HD4.cl;clear hw4 hb4 HP3 HR3;go_wp2_with (rw [HE4.out])
 refine (HOk _ _ _ _ _ _ _ _ _ _ _).mono ?_;rintro e w5 ⟨rfl,hb⟩;have HG5:=hO (HG4.below hb);have HP5:=hO (HP4.later hb);have HR5:=hO (HR4.later hb);clear hb HOk HD4 HP4 HR4 HG4 HE4 k0 k1 k2 k3 k4 k5 k6;have g5:=HG5.cl;go_wp2_with fail;refine (HSd _ _ _ _ HR5.out HRs.out).mono ?_;rintro e w6 ⟨rfl,hb⟩;obtain ⟨w7,hw7⟩:∃x,w6.alloc (.cells #[.int .i64 p1,.int .i64 p2] 27)=x:=⟨_,rfl⟩;have hb7:bW w6 w7:=by rw [<-hw7];exact zaa _ _
 have HP7:=hO ((HP5.later hb).later hb7);have HF7:Hid (FX w7 w6.heap.size p1 p2):=by rw [<-hw7];exact ⟨heap_alloc_new w6 _⟩
 have HE7:=hO hw7;have hlt6:=(HP5.later hb).f.lt;have n1:¬w6.heap.size=w.heap.size:=by omega
 have n2:¬w.heap.size=w6.heap.size:=by omega
 have n3:¬w6.heap.size=w.heap.size+1:=by omega
 have n4:¬w.heap.size+1=w6.heap.size:=by omega
 clear hb hb7 hw7 HG5 HP5 HR5 g5 HSd hlt6;have x0:=HF7.c0;have x1:=HF7.c1;have a0:=HP7.g.cl;have a1:=HP7.g.fz;have b0:=HP7.f.c0;have b1:=HP7.f.c1;have b2:=HP7.f.f0;have b3:=HP7.f.f1;go_wp2_with (rw [HE7.out])
 go_region
 all_goals
  go_wp2_with fail;have hF:=HP7.fin (.slice none 0 0) p1 p2;refine zgw rfl rfl rfl rfl hF.1.drew (zhp hF.2.1) ?_;exact ⟨rfl,hF.2.2.drew⟩
theorem zlo (s:ByteArray) (h65:¬65536<s.size) (w:World) (l:List Tk) (hl:zbf (zaL s) s=.inl l) (rs:List Rl) (hq:rdN (mkE l)=.inl rs) (hsz:szR (mkE l) s.size rs=none):Cl 4 #[.string s] w fun e w'=>PgV w' (.inl (rs.map fun r=>r.2)) e/\bW w w':=by
 have HP:=hO (PB.new w);obtain ⟨w1,hw1⟩:∃x,(w.alloc (.cells #[.slice none 0 0] 24)).alloc fxZ=x:=⟨_,rfl⟩;rw [hw1] at HP;have HE1:=hO hw1;have hs1:w1.heap.size=w.heap.size+2:=by rw [<-hw1,sA,sA]
 have hE:=zde hl;have HX:Hid (∀W,Cl 13 #[.string s] W fun e w'=>(∃v,e=.returned (.tuple #[v,.int .i64 0,.int .i64 0])/\w'.ownsRow W.heap.size 69 9 v l.length (tkc l))/\bW W w'):=fun W=>by
  have:=zcb s (by omega) W;rw [hl] at this;exact this
 have HRd:Hid (∀W2 v,W2.ownsRow w1.heap.size 69 9 v l.length (tkc l)->bW w1 W2->Cl 14 #[rdV v 0 s.size 0 (.slice none 0 0) 0 0] W2 fun e W'=>RdD (mkE l) s.size w1 v (rdN (mkE l)) e W'):=fun W2 v ho hb=>by
  obtain ⟨A,c,hv⟩:=zaf ho;subst hv;exact zeR hE ⟨hb,ho,World.ownsRow_nil _ _ _ _,Nat.zero_le _,Nat.zero_le _⟩
 have z1:¬(65536:Int)<(s.size:Int):=by omega
 have hbd:=zgx hE hq;rw [hq] at HRd;have HSd:Hid (∀W u pv ov,Rws (mkE l) s.size w1 W u pv ov->ov.map (·.1)=rs->Cl 16 #[.agg #[u],pv] W (rB W (.agg #[.int .i64 0,.int .i64 0]))):=fun W u pv ov h1 h2=>by
  have:=znD h1 (fun x hx=>hbd.1 _ (by rw [<-h2];exact List.mem_map.2 ⟨x,hx,rfl⟩)) (fun x hx=>hbd.2.2 _ (by rw [<-h2];exact List.mem_map.2 ⟨x,hx,rfl⟩)) (by rw [<-h2,List.length_map] at hbd;exact hbd.2.1);rw [h2,hsz] at this;exact this
 have HOk:Hid (∀(At:Option Addr) (nt ct:Nat) (i z d:Int) (A:Option Addr) (n c:Nat) (p:Int) W,Cl 15 #[rdV (.slice At nt ct) i z d (.slice A n c) p 0] W (rB W (.bool true))):=fun At nt ct i z d A n c p W=>zaP At nt ct i z d A n c p 0 W
 clear hw1 hE hl hq h65 hbd hsz;go_enter Tryz.func4,Tryz.ntmps4;go_wp2_with (rw [HE1.out])
 refine (HX _).mono ?_;rintro e w2 ⟨⟨v,rfl,ho⟩,hb⟩;obtain ⟨A,ct,hv⟩:=zaf ho;subst hv;have HP2:=hO (HP.later hb);have HO2:=hO ho;have HB2:Hid (bW w1 w2):=hb;clear ho hb HX HE1;go_wp2_with fail;refine (HRd _ _ HO2.out HB2.out).mono ?_;intro e w3 hR;obtain ⟨i3,d3,A3,l3,c3,u,pv,ov,rfl,hrs,ho,hbds,hpv,hb3⟩:=hR;obtain ⟨A4,c4,hu⟩:=zaf ho;obtain ⟨A5,c5,hp5⟩:=zaf hpv;subst hu hp5;obtain ⟨l4,hl4⟩:∃x,x=ov.length:=⟨_,rfl⟩;have HR3:Hid (Rws (mkE l) s.size w1 w3 (.slice A4 l4 c4) (.slice A5 l4 c5) ov):=by rw [hl4];exact ⟨ho,hpv,hbds⟩
 have HP3:Hid (PB w w3):=⟨HP.b.trans (hb3.mono HP.b.size),HP.g.below hb3,HP.f.below hb3⟩;have HRs:=hO hrs;rw [<-hl4];clear hb3 HRd HO2 HB2 HP2 HP ho hbds hpv hrs hl4;obtain ⟨w4,hw4⟩:∃x,(w3.alloc (.cells #[.slice A l.length ct,.int .i64 i3,.int .i64 s.size,.int .i64 d3,.slice A3 l3 c3,.int .i64 0,.int .i64 0] 44)).alloc (.cells #[.slice A4 l4 c4] 24)=x:=⟨_,rfl⟩;have hb4:bW w3 w4:=by rw [<-hw4];exact ((bR _ _).alloc (nL _) _).alloc (by rw [sA];omega) _
 have HD4:Hid (DB w4 w3.heap.size (.slice A l.length ct) (.int .i64 i3) (.int .i64 s.size) (.int .i64 d3) (.slice A3 l3 c3) (.int .i64 0) (.int .i64 0)):=by rw [<-hw4];exact (DB.mk (heap_alloc_new w3 _)).below (zaa _ _)
 have HG4:Hid (GX w4 (w3.heap.size+1) (.slice A4 l4 c4)):=by rw [<-hw4];exact ⟨by have h:=heap_alloc_new (w3.alloc (.cells #[.slice A l.length ct,.int .i64 i3,.int .i64 s.size,.int .i64 d3,.slice A3 l3 c3,.int .i64 0,.int .i64 0] 44)) (.cells #[.slice A4 l4 c4] 24);rw [sA] at h;exact h⟩
 have HE4:=hO hw4;have HP4:=hO (HP3.later hb4);have HR4:=hO (HR3.later hb4);obtain ⟨k0,k1,k2,k3,k4,k5,k6⟩:=HD4.cl;clear hw4 hb4 HP3 HR3;go_wp2_with (rw [HE4.out])
 refine (HOk _ _ _ _ _ _ _ _ _ _ _).mono ?_;rintro e w5 ⟨rfl,hb⟩;have HG5:=hO (HG4.below hb);have HP5:=hO (HP4.later hb);have HR5:=hO (HR4.later hb);clear hb HOk HD4 HP4 HR4 HG4 HE4 k0 k1 k2 k3 k4 k5 k6;have g5:=HG5.cl;go_wp2_with fail;refine (HSd _ _ _ _ HR5.out HRs.out).mono ?_;rintro e w6 ⟨rfl,hb⟩;have HP6:=hO (HP5.later hb);have HR6:=hO (HR5.later hb);have HG6:=hO (HG5.below hb);clear hb HG5 HP5 HR5 g5 HSd;obtain ⟨w7,hw7⟩:∃x,w6.alloc (.cells #[.int .i64 0,.int .i64 0] 27)=x:=⟨_,rfl⟩;have hb7:bW w6 w7:=by rw [<-hw7];exact zaa _ _
 have HP7:=hO (HP6.later hb7);have HR7:=hO (HR6.later hb7);have HG7:=hO (HG6.below hb7);have HF7:Hid (FX w7 w6.heap.size 0 0):=by rw [<-hw7];exact ⟨heap_alloc_new w6 _⟩
 have hlt6:w3.heap.size+1<w6.heap.size:=HG6.lt;have g6:=HG6.cl;have HW7:Hid (w7=w6.alloc (.cells #[.int .i64 0,.int .i64 0] 27)):=hw7.symm;clear hb7 hw7;have x0:=HF7.c0;have x1:=HF7.c1;have g7:=HG7.cl;have a0:=HP7.g.cl;have a1:=HP7.g.fz;have b0:=HP7.f.c0;have b1:=HP7.f.c1;have b2:=HP7.f.f0;have b3:=HP7.f.f1;rw [HW7.out] at x0 x1 g7 a0 a1 b0 b1 b2 b3;go_wp2_with fail;have hF:=HP7.fin (.slice A4 l4 c4) 0 0;have hRF:Rws (mkE l) s.size w1 (pbW w w7 (.slice A4 l4 c4) 0 0) (.slice A4 l4 c4) (.slice A5 l4 c5) ov:=HR7.same fun j hj=>by
  have:=HR7.ge hj;rw [hs1] at this;exact zlm (by omega) (by omega)
 rw [HW7.out] at hF hRF;refine zgw rfl rfl rfl rfl hF.1 hF.2.1 ?_;exact ⟨⟨_,rfl,by rw [<-HRs.out,List.map_map];exact GrR.of (w:=w1) (by have h9:=hRF.o;obtain ⟨A9,c9,e9⟩:=zaf h9;exact h9) hRF.b⟩,hF.2.2⟩
theorem zdX (s:ByteArray) (hs:s.size<=140737488355000) (w:World):Cl 4 #[.string s] w fun e w'=>PgV w' (psR s) e/\bW w w':=by
 by_cases h65:65536<s.size
 ·have:psR s=.inr (0,2):=by unfold psR zbf;rw [iP h65];rfl
  rw [this];exact zhq s h65 hs w
 ·unfold psR
  cases hl:zbf (zaL s) s with
  | inr q=>exact ziO s h65 w q hl
  | inl l =>
   dsimp only;unfold fin
   cases hr:rdN (mkE l) with
   | inr q=>exact ziP s h65 w l hl q hr
   | inl rs =>
    dsimp only
    cases hz:szR (mkE l) s.size rs with
    | some p=>exact zln s h65 w l hl rs hr p hz
    | none=>exact zlo s h65 w l hl rs hr hz
def PqV (w':World) (r:Sum (List (ByteArray×List Nd)) (Int×Int)) (e:Ending):Prop:=match r with
 | .inr p=>e=.returned (.tuple #[.slice none 0 0,.agg #[.int .i64 p.1,.int .i64 p.2]])
 | .inl gs=>∃ns A c,gs=[(⟨#[]⟩,ns)]/\e=.returned (.tuple #[.slice A ns.length c,.agg #[.int .i64 0,.int .i64 0]])/\T.RdN w' A ns
theorem ru_ex {E:PE} (h:ruB E 0=true):exN E 0=.inr (0,60):=by
 have hb:bgn E 0=false:=by
  unfold ruB at h;simp only [Bool.and_eq_true,beq_iff_eq] at h;unfold bgn;rw [h.1,h.2];rfl
 rw [<-zlB,g0 E 0 0 (Nat.zero_le _),g2 E 0 0 (Nat.zero_le _),g4 E 0 0 (Nat.zero_le _),iN (by rw [hb];decide)];rfl
theorem fld65 (t v:Value) (i z d p c:Int) (W:World):(Instr.field 44 (rdV t i z d v p c) 5).run Tryz.prog W=.ok (.agg #[.int .i64 p,.int .i64 c]) W:=by simp [Instr.field,asAgg,go_sem]
theorem rd_fx {W W':World} {A:Option Addr} {L:List Nd} (h:T.RdN W A L) {k:Nat} {p c:Int} (hf:FX W k p c) (hs:W.heap.size<=W'.heap.size) (hk:∀j,j≠k->W'.heap[j]?=W.heap[j]?):T.RdN W' A L:=fun hl=>by
 obtain ⟨g,o,e,lt,q⟩:=h hl;refine ⟨g,o,e,nM lt hs,q.same (hk g fun hgk=>?_)⟩;subst hgk;obtain ⟨n,L',rfl⟩:=List.exists_cons_of_ne_nil hl;have h2:=(q 0 n rfl).c2;rw [cell_of_row W g _ _ 27 (0,0) hf.heap] at h2;simp at h2
abbrev fxW (w W:World) (p c:Int):World:=(W.setCell ⟨w.heap.size,0,none⟩ (.int .i64 p)).setCell ⟨w.heap.size,1,none⟩ (.int .i64 c)
structure PF1 (w W:World):Prop where
 b:bW w W
 f:FX W w.heap.size 0 0
theorem PF1.later {w W W':World} (h:PF1 w W) (hb:bW W W'):PF1 w W':=⟨h.b.trans (hb.mono h.b.size),h.f.below hb⟩
theorem PF1.new (w:World):PF1 w (w.alloc fxZ):=⟨zaa _ _,⟨heap_alloc_new w _⟩⟩
theorem PF1.fin {w W:World} (h:PF1 w W) (p c:Int):FX (fxW w W p c) w.heap.size p c/\bW w (fxW w W p c) :=
 ⟨zlh h.f p c,(h.b.setCell (p:=⟨w.heap.size,0,none⟩) (nL _) _).setCell (p:=⟨w.heap.size,1,none⟩) (nL _) _⟩
theorem zlp {w W:World} {p c:Int} {j:Nat} (h1:j≠w.heap.size):(fxW w W p c).heap[j]?=W.heap[j]?:=(bS _ _ _ _ h1).trans (bS _ _ _ _ h1)
theorem zlq (s:ByteArray) (hl:65536<s.size) (hs:s.size<=140737488355000) (w:World):Cl 11 #[.string s] w (rB w (.tuple #[.slice none 0 0,.agg #[.int .i64 0,.int .i64 2]])):=by
 have HP:=hO (PF1.new w);obtain ⟨w1,hw1⟩:∃x,w.alloc fxZ=x:=⟨_,rfl⟩;rw [hw1] at HP;have HE1:=hO hw1;have hs1:w1.heap.size=w.heap.size+1:=by rw [<-hw1,sA]
 have z1:(65536:Int)<(s.size:Int):=by omega
 clear hw1 hl hs hs1;have b0:=HP.f.c0;have b1:=HP.f.c1;have b2:=HP.f.f0;have b3:=HP.f.f1;go_enter Tryz.func11,Tryz.ntmps11;go_wp2_with (rw [HE1.out])
 have hF:=HP.fin 0 2;refine zd5 rfl rfl rfl rfl hF.1 ?_;exact ⟨rfl,hF.2⟩
theorem zm2 (s:ByteArray) (hl:¬65536<s.size) (w:World) (q:Nat×Int) (hq:zbf (zaL s) s=.inr q):Cl 11 #[.string s] w (rB w (.tuple #[.slice none 0 0,.agg #[.int .i64 q.1,.int .i64 q.2]])):=by
 have HP:=hO (PF1.new w);obtain ⟨w1,hw1⟩:∃x,w.alloc fxZ=x:=⟨_,rfl⟩;rw [hw1] at HP;have HE1:=hO hw1;have hs1:w1.heap.size=w.heap.size+1:=by rw [<-hw1,sA]
 have HX:Hid (∀W,Cl 13 #[.string s] W (rB W (.tuple #[.slice none 0 0,.int .i64 q.1,.int .i64 q.2]))):=fun W=>by
  have:=zcb s (by omega) W;rw [hq] at this;exact this
 have z1:¬(65536:Int)<(s.size:Int):=by omega
 have t1:(q.2 != 0)=true:=by simpa using (zeN hq).2
 obtain ⟨q1,q2⟩:=q;dsimp only at *;clear hw1 hl hs1 hq;go_enter Tryz.func11,Tryz.ntmps11;go_wp2_with (rw [HE1.out])
 refine (HX _).mono ?_;rintro e w2 ⟨rfl,hb⟩;have HP2:=hO (HP.later hb);clear hb HX HP HE1;have b0:=HP2.f.c0;have b1:=HP2.f.c1;have b2:=HP2.f.f0;have b3:=HP2.f.f1;go_wp2_with fail;have hF:=HP2.fin q1 q2;refine zd5 rfl rfl rfl rfl hF.1 ?_;exact ⟨rfl,hF.2⟩
theorem zpD (s:ByteArray) (h65:¬65536<s.size) (w:World) (l:List Tk) (hl:zbf (zaL s) s=.inl l) (hr:ruB (mkE l) 0=true):Cl 11 #[.string s] w (rB w (.tuple #[.slice none 0 0,.agg #[.int .i64 (plA (mkE l) s.size 0),.int .i64 60]])):=by
 have HP:=hO (PF1.new w);obtain ⟨w1,hw1⟩:∃x,w.alloc fxZ=x:=⟨_,rfl⟩;rw [hw1] at HP;have HE1:=hO hw1;have hs1:w1.heap.size=w.heap.size+1:=by rw [<-hw1,sA]
 have hE:=zde hl;have HX:Hid (∀W,Cl 13 #[.string s] W fun e w'=>(∃v,e=.returned (.tuple #[v,.int .i64 0,.int .i64 0])/\w'.ownsRow W.heap.size 69 9 v l.length (tkc l))/\bW W w'):=fun W=>by
  have:=zcb s (by omega) W;rw [hl] at this;exact this
 have HRu:Hid (∀W2 v,DS (mkE l) w1 W2 v 0 0 (.slice none 0 0) []->Cl 25 #[rdV v 0 s.size 0 (.slice none 0 0) 0 0] W2 (rB W2 (.bool (ruB (mkE l) 0)))):=fun W2 v hd=>zbv hd s.size 0 0 hE.z
 have z1:¬(65536:Int)<(s.size:Int):=by omega
 rw [hr] at HRu;obtain ⟨p1,hp1⟩:∃x,plA (mkE l) s.size 0=x:=⟨_,rfl⟩;rw [hp1];have HFl:Hid (∀W2 v,DS (mkE l) w1 W2 v 0 0 (.slice none 0 0) []->Cl 26 #[rdV v 0 s.size 0 (.slice none 0 0) 0 0,.int .i64 60] W2 (rB W2 (rdV v 0 s.size 0 (.slice none 0 0) p1 60))):=fun W2 v hd=>by
  have:=zbl hd s.size 0 0 60;rw [hp1] at this;exact this
 clear hw1 hs1 hE hl hr h65 hp1;go_enter Tryz.func11,Tryz.ntmps11;go_wp2_with (rw [HE1.out])
 refine (HX _).mono ?_;rintro e w2 ⟨⟨v,rfl,ho⟩,hb⟩;obtain ⟨A,ct,hv⟩:=zaf ho;subst hv;obtain ⟨w3,hw3⟩:∃x,w2.alloc (rdO (.slice A l.length ct) 0 s.size 0 (.slice none 0 0) 0 0)=x:=⟨_,rfl⟩;have hb3:bW w2 w3:=by rw [<-hw3];exact zaa _ _
 have HP3:=hO ((HP.later hb).later hb3);have HD3:Hid (DS (mkE l) w1 w3 (.slice A l.length ct) 0 0 (.slice none 0 0) []):=(DS.mk (E:=mkE l) hb ho (World.ownsRow_nil _ _ _ _) (Nat.zero_le _) (Nat.zero_le _)).later hb3;have HX3:Hid (DB w3 w2.heap.size (.slice A l.length ct) (.int .i64 0) (.int .i64 s.size) (.int .i64 0) (.slice none 0 0) (.int .i64 0) (.int .i64 0)):=by rw [<-hw3];exact ⟨heap_alloc_new w2 _⟩
 have HE3:=hO hw3;clear ho hb HX HE1 HP hb3 hw3;obtain ⟨k0,k1,k2,k3,k4,k5,k6⟩:=HX3.cl;go_wp2_with (rw [HE3.out])
 refine (HRu _ _ HD3.out).mono ?_;rintro e w4 ⟨rfl,hb⟩;have HP4:=hO (HP3.later hb);have HD4:=hO (HD3.later hb);have HX4:=hO (HX3.below hb);clear hb HRu HP3 HD3 HX3 HE3 k0 k1 k2 k3 k4 k5 k6;obtain ⟨k0,k1,k2,k3,k4,k5,k6⟩:=HX4.cl;go_wp2_with fail;refine (HFl _ _ HD4.out).mono ?_;rintro e w5 ⟨rfl,hb⟩;have fl5:=fld65;have HP5:=hO (HP4.later hb);clear hb HFl HP4 HD4 HX4 k0 k1 k2 k3 k4 k5 k6;have b0:=HP5.f.c0;have b1:=HP5.f.c1;have b2:=HP5.f.f0;have b3:=HP5.f.f1;go_wp2_with fail;have hF:=HP5.fin p1 60;refine zd5 rfl rfl rfl rfl hF.1 ?_;exact ⟨rfl,hF.2⟩
theorem zm3 (s:ByteArray) (h65:¬65536<s.size) (w:World) (l:List Tk) (hl:zbf (zaL s) s=.inl l) (hr:ruB (mkE l) 0=false) (p:Int×Int) (hp:psR s=.inr p) (hp2:p.2≠0):Cl 11 #[.string s] w (rB w (.tuple #[.slice none 0 0,.agg #[.int .i64 p.1,.int .i64 p.2]])):=by
 have HP:=hO (PF1.new w);obtain ⟨w1,hw1⟩:∃x,w.alloc fxZ=x:=⟨_,rfl⟩;rw [hw1] at HP;have HE1:=hO hw1;have hs1:w1.heap.size=w.heap.size+1:=by rw [<-hw1,sA]
 have hE:=zde hl;have HX:Hid (∀W,Cl 13 #[.string s] W fun e w'=>(∃v,e=.returned (.tuple #[v,.int .i64 0,.int .i64 0])/\w'.ownsRow W.heap.size 69 9 v l.length (tkc l))/\bW W w'):=fun W=>by
  have:=zcb s (by omega) W;rw [hl] at this;exact this
 have HRu:Hid (∀W2 v,DS (mkE l) w1 W2 v 0 0 (.slice none 0 0) []->Cl 25 #[rdV v 0 s.size 0 (.slice none 0 0) 0 0] W2 (rB W2 (.bool (ruB (mkE l) 0)))):=fun W2 v hd=>zbv hd s.size 0 0 hE.z
 have z1:¬(65536:Int)<(s.size:Int):=by omega
 rw [hr] at HRu;have HPs:Hid (∀W,Cl 4 #[.string s] W (rB W (.tuple #[.agg #[.slice none 0 0],.agg #[.int .i64 p.1,.int .i64 p.2]]))):=fun W=>by
  have:=zdX s (by omega) W;rw [hp] at this;exact this
 have t1:(p.2 != 0)=true:=by simpa using hp2
 obtain ⟨p1,p2⟩:=p;dsimp only at *;clear hw1 hs1 hE hl hr h65 hp hp2;go_enter Tryz.func11,Tryz.ntmps11;go_wp2_with (rw [HE1.out])
 refine (HX _).mono ?_;rintro e w2 ⟨⟨v,rfl,ho⟩,hb⟩;obtain ⟨A,ct,hv⟩:=zaf ho;subst hv;obtain ⟨w3,hw3⟩:∃x,w2.alloc (rdO (.slice A l.length ct) 0 s.size 0 (.slice none 0 0) 0 0)=x:=⟨_,rfl⟩;have hb3:bW w2 w3:=by rw [<-hw3];exact zaa _ _
 have HP3:=hO ((HP.later hb).later hb3);have HD3:Hid (DS (mkE l) w1 w3 (.slice A l.length ct) 0 0 (.slice none 0 0) []):=(DS.mk (E:=mkE l) hb ho (World.ownsRow_nil _ _ _ _) (Nat.zero_le _) (Nat.zero_le _)).later hb3;have HX3:Hid (DB w3 w2.heap.size (.slice A l.length ct) (.int .i64 0) (.int .i64 s.size) (.int .i64 0) (.slice none 0 0) (.int .i64 0) (.int .i64 0)):=by rw [<-hw3];exact ⟨heap_alloc_new w2 _⟩
 have HE3:=hO hw3;clear ho hb HX HE1 HP hb3 hw3;obtain ⟨k0,k1,k2,k3,k4,k5,k6⟩:=HX3.cl;go_wp2_with (rw [HE3.out])
 refine (HRu _ _ HD3.out).mono ?_;rintro e w4 ⟨rfl,hb⟩;have HP4:=hO (HP3.later hb);have HD4:=hO (HD3.later hb);have HX4:=hO (HX3.below hb);clear hb HRu HP3 HD3 HX3 HE3 k0 k1 k2 k3 k4 k5 k6;go_wp2_with fail;refine (HPs _).mono ?_;rintro e w5 ⟨rfl,hb⟩;obtain ⟨w6,hw6⟩:∃x,(w5.alloc (.cells #[.slice none 0 0] 24)).alloc (.cells #[.int .i64 p1,.int .i64 p2] 27)=x:=⟨_,rfl⟩;have hb6:bW w5 w6:=by rw [<-hw6];exact ((bR _ _).alloc (nL _) _).alloc (by rw [sA];omega) _
 have HP6:=hO ((HP4.later hb).later hb6);have HF6:Hid (FX w6 (w5.heap.size+1) p1 p2):=by rw [<-hw6];exact ⟨by have h:=heap_alloc_new (w5.alloc (.cells #[.slice none 0 0] 24)) (.cells #[.int .i64 p1,.int .i64 p2] 27);rw [sA] at h;exact h⟩
 have HE6:=hO hw6;have hlt5:=(HP4.later hb).f.lt;have n1:¬w5.heap.size+1=w.heap.size:=by omega
 have n2:¬w.heap.size=w5.heap.size+1:=by omega
 clear hb hb6 hw6 HPs HP4 HD4 HX4 hlt5;have x0:=HF6.c0;have x1:=HF6.c1;have b0:=HP6.f.c0;have b1:=HP6.f.c1;have b2:=HP6.f.f0;have b3:=HP6.f.f1;go_wp2_with (rw [HE6.out])
 go_region
 all_goals
  go_wp2_with fail;have hF:=HP6.fin p1 p2;refine zd5 rfl rfl rfl rfl (zhp hF.1) ?_;exact ⟨rfl,hF.2.drew⟩
theorem zpE (s:ByteArray) (h65:¬65536<s.size) (w:World) (l:List Tk) (hl:zbf (zaL s) s=.inl l) (hr:ruB (mkE l) 0=false) (ns:List Nd) (hp:psR s=.inl [(⟨#[]⟩,ns)]):Cl 11 #[.string s] w fun e w'=>PqV w' (.inl [(⟨#[]⟩,ns)]) e/\bW w w':=by
 have HP:=hO (PF1.new w);obtain ⟨w1,hw1⟩:∃x,w.alloc fxZ=x:=⟨_,rfl⟩;rw [hw1] at HP;have HE1:=hO hw1;have hs1:w1.heap.size=w.heap.size+1:=by rw [<-hw1,sA]
 have hE:=zde hl;have HX:Hid (∀W,Cl 13 #[.string s] W fun e w'=>(∃v,e=.returned (.tuple #[v,.int .i64 0,.int .i64 0])/\w'.ownsRow W.heap.size 69 9 v l.length (tkc l))/\bW W w'):=fun W=>by
  have:=zcb s (by omega) W;rw [hl] at this;exact this
 have HRu:Hid (∀W2 v,DS (mkE l) w1 W2 v 0 0 (.slice none 0 0) []->Cl 25 #[rdV v 0 s.size 0 (.slice none 0 0) 0 0] W2 (rB W2 (.bool (ruB (mkE l) 0)))):=fun W2 v hd=>zbv hd s.size 0 0 hE.z
 have z1:¬(65536:Int)<(s.size:Int):=by omega
 rw [hr] at HRu;have HPs:Hid (∀W,Cl 4 #[.string s] W fun e w'=>(∃g A2 c2 c,e=.returned (.tuple #[.agg #[.slice (some ⟨g,0,none⟩) 1 c],.agg #[.int .i64 0,.int .i64 0]])/\g<w'.heap.size/\w'.cell? ⟨g,1,none⟩=some (.slice A2 ns.length c2)/\T.RdN w' A2 ns)/\bW W w'):=fun W=>by
  have:=zdX s (by omega) W;rw [hp] at this;refine this.mono ?_;rintro e w' ⟨⟨u,h1,A,c,h2,h3⟩,h4⟩;obtain ⟨b,A2,c2,h5,h6,_,h7,h8⟩:=h3 0 (⟨#[]⟩,ns) rfl;subst h5;exact ⟨⟨b,A2,c2,c,by rw [h1,h2];rfl,h6,by simpa using h7,h8⟩,h4⟩
 clear hw1 hE hl hr h65 hp;go_enter Tryz.func11,Tryz.ntmps11;go_wp2_with (rw [HE1.out])
 refine (HX _).mono ?_;rintro e w2 ⟨⟨v,rfl,ho⟩,hb⟩;obtain ⟨A,ct,hv⟩:=zaf ho;subst hv;obtain ⟨w3,hw3⟩:∃x,w2.alloc (rdO (.slice A l.length ct) 0 s.size 0 (.slice none 0 0) 0 0)=x:=⟨_,rfl⟩;have hb3:bW w2 w3:=by rw [<-hw3];exact zaa _ _
 have HP3:=hO ((HP.later hb).later hb3);have HD3:Hid (DS (mkE l) w1 w3 (.slice A l.length ct) 0 0 (.slice none 0 0) []):=(DS.mk (E:=mkE l) hb ho (World.ownsRow_nil _ _ _ _) (Nat.zero_le _) (Nat.zero_le _)).later hb3;have HX3:Hid (DB w3 w2.heap.size (.slice A l.length ct) (.int .i64 0) (.int .i64 s.size) (.int .i64 0) (.slice none 0 0) (.int .i64 0) (.int .i64 0)):=by rw [<-hw3];exact ⟨heap_alloc_new w2 _⟩
 have HE3:=hO hw3;clear ho hb HX HE1 HP hb3 hw3;obtain ⟨k0,k1,k2,k3,k4,k5,k6⟩:=HX3.cl;go_wp2_with (rw [HE3.out])
 refine (HRu _ _ HD3.out).mono ?_;rintro e w4 ⟨rfl,hb⟩;have HP4:=hO (HP3.later hb);have HD4:=hO (HD3.later hb);have HX4:=hO (HX3.below hb);clear hb HRu HP3 HD3 HX3 HE3 k0 k1 k2 k3 k4 k5 k6;go_wp2_with fail;refine (HPs _).mono ?_;rintro e w5 ⟨⟨g,A2,c2,c,rfl,hg,hc,hrd⟩,hb⟩;obtain ⟨w6,hw6⟩:∃x,(w5.alloc (.cells #[.slice (some ⟨g,0,none⟩) 1 c] 24)).alloc (.cells #[.int .i64 0,.int .i64 0] 27)=x:=⟨_,rfl⟩;have hb6:bW w5 w6:=by rw [<-hw6];exact ((bR _ _).alloc (nL _) _).alloc (by rw [sA];omega) _
 have HP6:=hO ((HP4.later hb).later hb6);have HG6:Hid (GX w6 w5.heap.size (.slice (some ⟨g,0,none⟩) 1 c)):=by rw [<-hw6];exact (GX.mk (heap_alloc_new w5 _)).below (zaa _ _)
 have HF6:Hid (FX w6 (w5.heap.size+1) 0 0):=by rw [<-hw6];exact ⟨by have h:=heap_alloc_new (w5.alloc (.cells #[.slice (some ⟨g,0,none⟩) 1 c] 24)) (.cells #[.int .i64 0,.int .i64 0] 27);rw [sA] at h;exact h⟩
 have hc6:w6.cell? ⟨g,1,none⟩=some (.slice A2 ns.length c2):=(hb6.cell (p:=⟨g,1,none⟩) hg).trans hc;have HRd:Hid (T.RdN w6 A2 ns):=hrd.below hb6 (nL _);have HW6:Hid (w6=(w5.alloc (.cells #[.slice (some ⟨g,0,none⟩) 1 c] 24)).alloc (.cells #[.int .i64 0,.int .i64 0] 27)):=hw6.symm;clear hb hb6 hw6 HPs HP4 HD4 HX4 hg hc hrd;have x0:=HF6.c0;have x1:=HF6.c1;have g6:=HG6.cl;have b0:=HP6.f.c0;have b1:=HP6.f.c1;have b2:=HP6.f.f0;have b3:=HP6.f.f1;rw [HW6.out] at x0 x1 g6 hc6 b0 b1 b2 b3;go_wp2_with fail;have hF:=HP6.fin 0 0;have hRF:T.RdN (fxW w w6 0 0) A2 ns:=rd_fx HRd.out HP6.f (by simp [World.setCell]) fun j hj=>zlp hj
 rw [HW6.out] at hF hRF;refine zd5 rfl rfl rfl rfl hF.1 ?_;exact ⟨⟨ns,A2,c2,rfl,rfl,hRF⟩,hF.2⟩
theorem zm4 (s:ByteArray) (hs:s.size<=140737488355000) (w:World):Cl 11 #[.string s] w fun e w'=>PqV w' (paR s) e/\bW w w':=by
 by_cases h65:65536<s.size
 ·have:paR s=.inr (0,2):=by unfold paR zbf;rw [iP h65];rfl
  rw [this];exact zlq s h65 hs w
 ·cases hl:zbf (zaL s) s with
  | inr q =>
   have:paR s=.inr (q.1,q.2):=by unfold paR;rw [hl]
   rw [this];exact zm2 s h65 w q hl
  | inl l =>
   have h1:paR s=fin (mkE l) s.size (alN (mkE l)):=by unfold paR;rw [hl]
   cases hr:ruB (mkE l) 0 with
   | true =>
    have h2:alN (mkE l)=.inr (0,60):=by unfold alN;rw [ru_ex hr]
    rw [h1,h2];exact zpD s h65 w l hl hr
   | false =>
    have h2:psR s=paR s:=by unfold psR;rw [hl,h1];dsimp only;rw [zgo (by rw [hr];decide)]
    cases hp:paR s with
    | inr p=>exact zm3 s h65 w l hl hr p (h2.trans hp) (zpt hp).1
    | inl gs =>
     obtain ⟨_,ns,_,h3,_⟩:=znz hp;subst h3;exact zpE s h65 w l hl hr ns (h2.trans hp)
def gsR (r:Sum (List (ByteArray×List Nd)) (Int×Int)):List (ByteArray×List Nd):=match r with
 | .inl gs=>gs
 | .inr _=>[]
def ptR (r:Sum (List (ByteArray×List Nd)) (Int×Int)):Int×Int:=match r with
 | .inl _=>(0,0)
 | .inr p=>p
theorem PgV.u {w':World} {r:Sum (List (ByteArray×List Nd)) (Int×Int)} {e:Ending} (h:PgV w' r e):∃A c,e=.returned (.tuple #[.agg #[.slice A (gsR r).length c],.agg #[.int .i64 (ptR r).1,.int .i64 (ptR r).2]])/\GrR w' (.slice A (gsR r).length c) (gsR r):=by
 cases r with
 | inr p=>exact ⟨none,0,h,GrR.nil w'⟩
 | inl gs =>
  obtain ⟨u,h1,h2⟩:=h;obtain ⟨A,c,h3,h4⟩:=id h2;subst h3;exact ⟨A,c,h1,h2⟩
def nsR (r:Sum (List (ByteArray×List Nd)) (Int×Int)):List Nd:=match gsR r with
 | []=>[]
 | g::_=>g.2
theorem PqV.u {w':World} {r:Sum (List (ByteArray×List Nd)) (Int×Int)} {e:Ending} (h:PqV w' r e):∃A c,e=.returned (.tuple #[.slice A (nsR r).length c,.agg #[.int .i64 (ptR r).1,.int .i64 (ptR r).2]])/\T.RdN w' A (nsR r):=by
 cases r with
 | inr p=>exact ⟨none,0,h,fun q=>absurd rfl q⟩
 | inl gs =>
  obtain ⟨ns,A,c,h1,h2,h3⟩:=h;subst h1;exact ⟨A,c,h2,h3⟩
theorem zpF {W:World} {B g n cap:Nat} {xs:List Value} (h:W.ownsRow B 65 7 (.slice (some ⟨g,0,none⟩) n cap) n xs) (o:Nat) (a0 a1 a2 a3 a4 a5 a6:Value) :
  ∃ys,(((((((W.setCell ⟨g,o,none⟩ a0).setCell ⟨g,o+1,none⟩ a1).setCell ⟨g,o+2,none⟩ a2).setCell ⟨g,o+3,none⟩ a3).setCell ⟨g,o+4,none⟩ a4).setCell ⟨g,o+5,none⟩ a5).setCell ⟨g,o+6,none⟩ a6).ownsRow B 65 7 (.slice (some ⟨g,0,none⟩) n cap) n ys ∧
   W.grownBy (((((((W.setCell ⟨g,o,none⟩ a0).setCell ⟨g,o+1,none⟩ a1).setCell ⟨g,o+2,none⟩ a2).setCell ⟨g,o+3,none⟩ a3).setCell ⟨g,o+4,none⟩ a4).setCell ⟨g,o+5,none⟩ a5).setCell ⟨g,o+6,none⟩ a6) (some g):=by
 obtain ⟨s0,g0⟩:=h.stored o a0;obtain ⟨s1,g1⟩:=s0.stored (o+1) a1;obtain ⟨s2,g2⟩:=s1.stored (o+2) a2;obtain ⟨s3,g3⟩:=s2.stored (o+3) a3;obtain ⟨s4,g4⟩:=s3.stored (o+4) a4;obtain ⟨s5,g5⟩:=s4.stored (o+5) a5;obtain ⟨s6,g6⟩:=s5.stored (o+6) a6;exact ⟨_,s6,((((((g0.trans g1).trans g2).trans g3).trans g4).trans g5).trans g6)⟩
theorem zfn (mk:Int) (v:Value) (n B:Nat) (xs:List Value) (w:World) (h:w.ownsRow B 65 7 v n xs) (hB:B<=w.heap.size) (hn:n<=20000000) :
  Cl 10 #[v,.int .i64 mk] w fun e w'=>e=.returned (.tuple #[])/\w.grownBy w' v.ownBlock:=by
 obtain ⟨i0,hinf,hz0,hz1,hz2⟩:=info_parts T.Tryz.info43;obtain ⟨A,c,rfl⟩:=zaf h;have HA:Hid (∃ys,w.ownsRow B 65 7 (.slice A n c) n ys):=⟨xs,h⟩;have HX:=(show Hid (0<n->∃g,A=some ⟨g,0,none⟩) from fun h0=>by
  obtain ⟨g,cap,e,_⟩:=h.form h0
  cases e
  exact ⟨g,rfl⟩)
 clear h;go_enter Tryz.func10,Tryz.ntmps10;go_wp2_with fail;go_loopw [4] (fun t wr=>∃k:Nat,k<=n/\t=.int .i64 k/\Hid (∃ys,wr.ownsRow B 65 7 (.slice A n c) n ys)/\Hid (w.grownBy wr (Value.slice A n c).ownBlock)) (fun t _=>n - (intOf t).toNat)
 case atStart=>exact ⟨0,by omega,by go_num,HA,World.grownBy.refl _ _⟩
 case round =>
  obtain ⟨k,hk,rfl,HO,HW⟩:=hrel;clear HA;by_cases hlt:k<n
  ·obtain ⟨g,rfl⟩:=HX (by omega)
   obtain ⟨ys,ho⟩:=HO.out;have hyl:ys.length=n * 7:=ho.1;have key:∀i,i<7->∃y,wr.cell? ⟨g,k * 7+i,none⟩=some y:=fun i hi=>by
    have hcl:=ho.cells (g:=g) rfl (k * 7+i) _ (gE (by omega));rw [Addr.add_lit,Nat.zero_add] at hcl;exact ⟨_,hcl⟩
   obtain ⟨y0,c0⟩:=key 0 (by omega);obtain ⟨y1,c1⟩:=key 1 (by omega);obtain ⟨y2,c2⟩:=key 2 (by omega);obtain ⟨y3,c3⟩:=key 3 (by omega);obtain ⟨y4,c4⟩:=key 4 (by omega);obtain ⟨y5,c5⟩:=key 5 (by omega);obtain ⟨y6,c6⟩:=key 6 (by omega);rw [Nat.add_zero] at c0;have f0:=ho.frozenAt (k * 7);have f1:=ho.frozenAt (k * 7+1);have f2:=ho.frozenAt (k * 7+2);have f3:=ho.frozenAt (k * 7+3);have f4:=ho.frozenAt (k * 7+4);have f5:=ho.frozenAt (k * 7+5);have f6:=ho.frozenAt (k * 7+6);obtain ⟨zs,st1,st2⟩:=zpF ho (k * 7) (.int .i64 mk) (.int .i64 0) (.string ⟨#[]⟩) (.int .u64 0) (.int .u64 0) (.int .u64 0) (.int .u64 0);have HO2:Hid (∃ys,_):=⟨_,st1⟩;have HW2:=hO (HW.trans st2);have z0:(0:Int)<=(k:Int):=by omega
   have z1:(k:Int)<(n:Int):=by omega
   clear HO HW st1 st2 ho hyl HX key;go_wp2
   go_roundw
   case rel=>exact ⟨k+1,by omega,by go_num,HO2,HW2⟩
   case measure=>simp [intOf];omega
  ·obtain rfl:k=n:=by omega
   obtain ⟨ys,hO1⟩:=HO.out;have hsz:=HW.size;clear HX;go_wp2_with (at_builtin;refine wpList_append_lies _ rfl _ _ 34 rfl B 65 i0 _ 7 64 Tryz.underlying34 hinf hz0 hz1 hz2 rfl (by decide) _ _ _ rfl (hO1.alloc _) ⟨wr.heap.size,0,none⟩ 1 1 (T.ndV (nd0 mk)) rfl rfl ?c1 ?c2 (by decide) ?c3 ?c4 ?c5 (wr.heap.size+1) (by simp) ?_)
   case c1=>exact World.news_of_block (cs:=#[.int .i64 mk,.int .i64 0,.string ⟨#[]⟩,.int .u64 0,.int .u64 0,.int .u64 0,.int .u64 0]) (t:=65) (fr:=(0,0)) (heap_alloc_new wr _)
   case c2=>intro u hu;exact T.zc7 _ u hu
   case c3=>unfold maxLen;omega
   case c4=>omega
   case c5=>rw [sA];omega
   intro g3 cap w3 hown hgrow hat hlt3;have HG:=hO (HW.trans ((World.grownBy_alloc wr (.cells #[.int .i64 mk,.int .i64 0,.string ⟨#[]⟩,.int .u64 0,.int .u64 0,.int .u64 0,.int .u64 0] 65) _).trans hgrow));clear hown hgrow hat hlt3 hO1 HO HW;go_wp2
   go_end0
   exact ⟨rfl,HG.out⟩
structure SpG (W wr:World) (i:Nat) (u:Value) (ov:List (Rl×Value)) (k:Nat):Prop where
 b:bW W wr
 x:GX wr i u
 o:∃ys,wr.ownsRow W.heap.size 57 2 u ov.length ys/\∀(j:Nat) x,k<=j->ov[j]?=some x->ys[j * 2+1]?=some x.2
 e:∀(j:Nat) x,k<=j->ov[j]?=some x->wr.ownsRow W.heap.size 65 7 x.2 x.1.2.2.length (T.ndc x.1.2.2)
theorem ap_at {ov:List (Rl×Value)} (h:ov.Pairwise fun x y=>∀k,x.2.ownBlock=some k->y.2.ownBlock≠some k) {i j:Nat} {x y:Rl×Value} (hi:ov[i]?=some x) (hj:ov[j]?=some y) (hij:i<j):∀k,x.2.ownBlock=some k->y.2.ownBlock≠some k:=by
 obtain ⟨a1,rfl⟩:=List.getElem?_eq_some_iff.1 hi;obtain ⟨a2,rfl⟩:=List.getElem?_eq_some_iff.1 hj;exact List.pairwise_iff_getElem.1 h i j a1 a2 hij
theorem SpG.body {W wr w':World} {i:Nat} {u:Value} {ov:List (Rl×Value)} {k:Nat} (h:SpG W wr i u ov k) (hp:ov.Pairwise fun x y=>∀k,x.2.ownBlock=some k->y.2.ownBlock≠some k) {x:Rl×Value} (hx:ov[k]?=some x) (hg:wr.grownBy w' x.2.ownBlock):SpG W w' i u ov (k+1):=by
 have hxo:=h.e k x (nL _) hx;obtain ⟨ys,ho,hy⟩:=h.o;refine ⟨h.b.grown hg h.b.size (fun q e=>(hxo.lt q e).1),h.x.same (hg.block i h.x.lt (fun e=>h.x.ne hxo (by decide) e.symm rfl)),⟨ys,zaj ho fun q hq=>hg.block q (ho.lt q hq).2 (fun e=>za2 ho hxo (by decide) hq e.symm),fun j y hj hy2=>hy j y (by omega) hy2⟩,fun j y hj hy2=>?_⟩;have hyo:=h.e j y (by omega) hy2;exact zaj hyo fun q hq=>hg.block q (hyo.lt q hq).2 (fun e=>ap_at hp hx hy2 (by omega) q e.symm hq)
theorem SpG.rule {W wr:World} {i g n c:Nat} {ov:List (Rl×Value)} {k:Nat} (h:SpG W wr i (.slice (some ⟨g,0,none⟩) n c) ov (k+1)) (hn:n=ov.length) (a0 a1:Value):SpG W ((wr.setCell ⟨g,k * 2,none⟩ a0).setCell ⟨g,k * 2+1,none⟩ a1) i (.slice (some ⟨g,0,none⟩) n c) ov (k+1):=by
 subst hn;obtain ⟨ys,ho,hy⟩:=h.o;have hlt:=ho.lt g rfl;have hot:∀q,q≠g->((wr.setCell ⟨g,k * 2,none⟩ a0).setCell ⟨g,k * 2+1,none⟩ a1).heap[q]?=wr.heap[q]?:=fun q hq=>(bS _ _ _ _ hq).trans (bS _ _ _ _ hq)
 refine ⟨(h.b.setCell (p:=⟨g,k * 2,none⟩) hlt.1 _).setCell (p:=⟨g,k * 2+1,none⟩) hlt.1 _,h.x.same (hot i fun e=>h.x.ne ho (by decide) (j:=g) rfl e.symm),⟨(ys.set (k * 2) a0).set (k * 2+1) a1,(((ho.stored (k * 2) a0).1).stored (k * 2+1) a1).1,fun j y hj hy2=>?_⟩,fun j y hj hy2=>?_⟩
 ·rw [List.getElem?_set_ne (by omega),List.getElem?_set_ne (by omega)]
  exact hy j y hj hy2
 ·have hyo:=h.e j y hj hy2
  exact zaj hyo fun q hq=>hot q fun e=>za2 hyo ho (by decide) hq (by rw [e];rfl)
theorem ziQ (mk:Int) {W w:World} {u:Value} {ov:List (Rl×Value)} (hb:bW W w) (ho:w.ownsRow W.heap.size 57 2 u ov.length (grc ov)) (hbd:Bds W w ov) (hl:∀x∈ov,x.1.2.2.length<=2048) (hn:ov.length<=200) :
  Cl 8 #[.agg #[u],.int .i64 mk] w (rB W (.tuple #[])):=by
 have HA:Hid (SpG W (w.alloc (.cells #[u] 24)) w.heap.size u ov 0):=⟨hb.alloc hb.size _,⟨heap_alloc_new w _⟩,⟨grc ov,ho.alloc _,fun j x _ hj=>zlg ov j 1 x x.2 hj rfl⟩,fun j x _ hj=>(hbd.e x (List.mem_of_getElem? hj)).alloc _⟩;have HAp:Hid (ov.Pairwise fun x y=>∀k,x.2.ownBlock=some k->y.2.ownBlock≠some k):=hbd.ap;have HG:Hid (∀k,k<ov.length->∃x,ov[k]?=some x/\x.1.2.2.length<=2048):=fun k hk=>⟨_,gE hk,hl _ (List.getElem_mem hk)⟩
 have HX:=(show Hid (∀A c,u=.slice A ov.length c->0<ov.length->∃g,A=some ⟨g,0,none⟩) from fun A c e h0=>by
  obtain ⟨g,cap,e2,_⟩:=ho.form h0;rw [e] at e2
  cases e2
  exact ⟨g,rfl⟩)
 have HS:Hid (∀(wr:World) v n (L:List Nd),wr.ownsRow W.heap.size 65 7 v n (T.ndc L)->W.heap.size<=wr.heap.size->n<=2048->Cl 10 #[v,.int .i64 mk] wr fun e w'=>e=.returned (.tuple #[])/\wr.grownBy w' v.ownBlock):=fun wr v n L h1 h2 h3=>zfn mk v n W.heap.size _ wr h1 h2 (by omega)
 obtain ⟨A,c,rfl⟩:=zaf ho;have HX2:Hid (0<ov.length->∃g,A=some ⟨g,0,none⟩):=HX.out A c rfl;clear hb ho hbd hl HX;have q1:=HA.x.cl;go_enter Tryz.func8,Tryz.ntmps8;go_wp2_with fail;generalize w.alloc (.cells #[.slice A ov.length c] 24)=w1 at *;generalize w.heap.size=bx at *;go_wp2_with fail;clear q1;go_loopw [4] (fun t wr=>∃k:Nat,k<=ov.length/\t=.int .i64 k/\Hid (SpG W wr bx (.slice A ov.length c) ov k)) (fun t _=>ov.length - (intOf t).toNat)
 case atStart=>exact ⟨0,by omega,by go_num,HA⟩
 case round =>
  obtain ⟨k,hk,rfl,HW⟩:=hrel;clear HA;have q1:=HW.x.cl;by_cases hlt:k<ov.length
  ·obtain ⟨x,hx,hxl⟩:=HG k hlt
   obtain ⟨g,rfl⟩:=HX2 (by omega);have HC:Hid (∀_:Unit,Cl 10 #[x.2,.int .i64 mk] wr fun e w'=>e=.returned (.tuple #[])/\wr.grownBy w' x.2.ownBlock):=fun _=>HS wr _ _ _ (HW.e k x (nL _) hx) HW.b.size hxl
   have y1:wr.cell? ⟨g,k * 2+1,none⟩=some x.2:=by
    obtain ⟨ys,ho,hy⟩:=HW.o;rw [ho.cellAt (k * 2+1) (by omega)];exact hy k x (nL _) hx
   have HB2:Hid (∀w',wr.grownBy w' x.2.ownBlock->SpG W w' bx (.slice (some ⟨g,0,none⟩) ov.length c) ov (k+1)):=fun w' hg=>HW.body HAp hx hg
   have z0:(0:Int)<=(k:Int):=by omega
   have z1:(k:Int)<(ov.length:Int):=by omega
   clear HG HX2 HS hx hxl HW;generalize x.2=xv at *;go_wp2_with fail;refine (HC ()).mono ?_;rintro e w2 ⟨rfl,hg⟩;have HW2:=hO (HB2 w2 hg);clear HC HB2 hg q1 y1;have q2:=HW2.x.cl;have f0:w2.frozen? ⟨g,k * 2,none⟩=false:=by obtain ⟨ys,ho,_⟩:=HW2.o;exact ho.frozenAt _
   have f1:w2.frozen? ⟨g,k * 2+1,none⟩=false:=by obtain ⟨ys,ho,_⟩:=HW2.o;exact ho.frozenAt _
   have y0:∃y,w2.cell? ⟨g,k * 2,none⟩=some y:=by
    obtain ⟨ys,ho,_⟩:=HW2.o;have hyl:ys.length=ov.length * 2:=ho.1;exact ⟨_,(ho.cellAt (k * 2) (by omega)).trans (gE (by omega))⟩
   have y1:∃y,w2.cell? ⟨g,k * 2+1,none⟩=some y:=by
    obtain ⟨ys,ho,_⟩:=HW2.o;have hyl:ys.length=ov.length * 2:=ho.1;exact ⟨_,(ho.cellAt (k * 2+1) (by omega)).trans (gE (by omega))⟩
   obtain ⟨y0,c0⟩:=y0;obtain ⟨y1,c1⟩:=y1;have HW3:=hO (HW2.rule rfl (.string ⟨#[115,112,111,105,108,116]⟩) (.slice none 0 0));clear HW2;go_wp2_with fail;go_roundw
   case rel=>exact ⟨k+1,by omega,by go_num,HW3⟩
   case measure=>simp [intOf];omega
  ·obtain rfl:k=ov.length:=by omega
   clear HG HX2 HS;go_wp2_with fail;go_end0
   exact ⟨rfl,HW.b⟩
theorem fx_neq (a b:Int) (W:World):(binOp .neq 27 (.agg #[.int .i64 a,.int .i64 b]) (.agg #[.int .i64 a,.int .i64 b])).run Tryz.prog W=.ok (.bool false) W:=by
 have h:=eq26 a b a b W;have e:Op.maxDepth=10000:=rfl;simp [binOp,Op.equal,e,h]
theorem PsV.v {w w':World} {r:Sum (List (ByteArray×List Nd)) (Int×Int)} {e:Ending} (h:PsV w w' r e):∃A c ov,e=.returned (.tuple #[.agg #[.slice A (gsR r).length c],.agg #[.int .i64 (ptR r).1,.int .i64 (ptR r).2]])/\w'.ownsRow w.heap.size 57 2 (.slice A (gsR r).length c) ov.length (grc ov)/\Bds w w' ov/\ov.map (fun x=>x.1.2)=gsR r:=by
 cases r with
 | inr p=>exact ⟨none,0,[],h,⟨rfl,.inl ⟨rfl,rfl⟩⟩,⟨(fun x hx=>by cases hx),List.Pairwise.nil⟩,rfl⟩
 | inl gs =>
  obtain ⟨u,ov,h1,h2,h3,h4⟩:=h;obtain ⟨A,c,rfl⟩:=zaf h2;have e1:ov.length=(gsR (.inl gs)).length:=by rw [show gsR (.inl gs)=gs from rfl,<-h4,List.length_map]
  rw [e1] at h1 h2;exact ⟨A,c,ov,h1,by rw [e1];exact h2,h3,h4⟩
theorem PaV.v {w w':World} {r:Sum (List (ByteArray×List Nd)) (Int×Int)} {e:Ending} (h:PaV w w' r e):∃A c,e=.returned (.tuple #[.slice A (nsR r).length c,.agg #[.int .i64 (ptR r).1,.int .i64 (ptR r).2]])/\w'.ownsRow w.heap.size 65 7 (.slice A (nsR r).length c) (nsR r).length (T.ndc (nsR r)):=by
 cases r with
 | inr p=>exact ⟨none,0,h,⟨rfl,.inl ⟨rfl,rfl⟩⟩⟩
 | inl gs =>
  obtain ⟨v,ns,h1,h2,h3⟩:=h;subst h1;obtain ⟨A,c,rfl⟩:=zaf h3;exact ⟨A,c,h2,h3⟩
structure AtOw (w wr:World) (k:Nat) (u:Value) (p c:Int) (gs:List (ByteArray×List Nd)):Prop where
 b:bW w wr
 x:GX wr k u
 f:FX wr (k+1) p c
 r:GrR wr u gs
theorem AtOw.later {w wr W':World} {k:Nat} {u:Value} {p c:Int} {gs:List (ByteArray×List Nd)} (h:AtOw w wr k u p c gs) (hb:bW wr W'):AtOw w W' k u p c gs :=
 ⟨h.b.trans (hb.mono h.b.size),h.x.below hb,h.f.below hb,h.r.later hb⟩
structure AtP (wr W:World) (k:Nat) (u:Value) (p c:Int) (ov:List (Rl×Value)) (gs:List (ByteArray×List Nd)):Prop where
 b:bW wr W
 x:GX W k u
 f:FX W (k+1) p c
 r:GrR W u gs
 o:W.ownsRow wr.heap.size 57 2 u ov.length (grc ov)
 d:Bds wr W ov
theorem AtP.later {wr W W':World} {k:Nat} {u:Value} {p c:Int} {ov:List (Rl×Value)} {gs:List (ByteArray×List Nd)} (h:AtP wr W k u p c ov gs) (hb:bW W W'):AtP wr W' k u p c ov gs :=
 ⟨h.b.trans (hb.mono h.b.size),h.x.below hb,h.f.below hb,h.r.later hb,zf1 h.o hb,h.d.later hb⟩
theorem box2 (w3:World) (u:Value) (p c:Int):bW w3 ((w3.alloc (.cells #[u] 24)).alloc (.cells #[.int .i64 p,.int .i64 c] 27))/\GX ((w3.alloc (.cells #[u] 24)).alloc (.cells #[.int .i64 p,.int .i64 c] 27)) w3.heap.size u/\FX ((w3.alloc (.cells #[u] 24)).alloc (.cells #[.int .i64 p,.int .i64 c] 27)) (w3.heap.size+1) p c :=
 ⟨((bR _ _).alloc (nL _) _).alloc (by rw [sA];omega) _,(GX.mk (heap_alloc_new w3 _)).below (zaa _ _),⟨by have h:=heap_alloc_new (w3.alloc (.cells #[u] 24)) (.cells #[.int .i64 p,.int .i64 c] 27);rw [sA] at h;exact h⟩⟩
theorem zpG (s:ByteArray) (hs2:s.size<=140737488355000) (w:World) (hg:GW w):Cl 3 #[.string s] w (rB w (.bool true)):=by
 have HP:Hid (∀W,GW W->Cl 5 #[.string s] W fun e w'=>(∃A c ov,e=.returned (.tuple #[.agg #[.slice A (gsR (psR s)).length c],.agg #[.int .i64 (ptR (psR s)).1,.int .i64 (ptR (psR s)).2]])/\w'.ownsRow W.heap.size 57 2 (.slice A (gsR (psR s)).length c) ov.length (grc ov)/\Bds W w' ov/\ov.map (fun x=>x.1.2)=gsR (psR s))/\bW W w'):=fun W hW=>(zlc s W hW).mono fun _ _ h=>⟨h.1.v,h.2⟩
 have HQ:Hid (∀W,Cl 4 #[.string s] W fun e w'=>(∃A c,e=.returned (.tuple #[.agg #[.slice A (gsR (psR s)).length c],.agg #[.int .i64 (ptR (psR s)).1,.int .i64 (ptR (psR s)).2]])/\GrR w' (.slice A (gsR (psR s)).length c) (gsR (psR s)))/\bW W w'):=fun W=>(zdX s hs2 W).mono fun _ _ h=>⟨h.1.u,h.2⟩
 have HL:Hid (∀W,GW W->Cl 7 #[] W (rB W (.bool true))):=fun W h=>zlf W h
 have hbnd:(∀g∈gsR (psR s),g.2.length<=2048)/\(gsR (psR s)).length<=200:=by
  cases hr:psR s with
  | inr p=>exact ⟨(fun g hg=>by cases hg),Nat.zero_le _⟩
  | inl gs=>exact ⟨fun g hg=>((znB hr).2.2.1 g hg).2.1,(znB hr).2.1⟩
 have HS:Hid (∀W u1 u2,GrR W u1 (gsR (psR s))->GrR W u2 (gsR (psR s))->Cl 6 #[.agg #[u1],.agg #[u2]] W (rB W (.bool true))):=fun W u1 u2 h3 h4=>zli hbnd.1 hbnd.2 h3 h4
 have HZ:Hid (∀(W w:World) u ov,bW W w->w.ownsRow W.heap.size 57 2 u ov.length (grc ov)->Bds W w ov->ov.map (fun x=>x.1.2)=gsR (psR s)->Cl 8 #[.agg #[u],.int .i64 (-3)] w (rB W (.tuple #[]))):=fun W w u ov h1 h2 h3 h4=>ziQ (-3) h1 h2 h3 (fun x hx=>hbnd.1 x.1.2 (by rw [<-h4];exact List.mem_map_of_mem hx)) (by have:=hbnd.2;rw [<-h4,List.length_map] at this;exact this)
 have HA:Hid (∀W,GW W->Cl 9 #[.string s] W fun e w'=>(∃A c,e=.returned (.tuple #[.slice A (nsR (paR s)).length c,.agg #[.int .i64 (ptR (paR s)).1,.int .i64 (ptR (paR s)).2]])/\w'.ownsRow W.heap.size 65 7 (.slice A (nsR (paR s)).length c) (nsR (paR s)).length (T.ndc (nsR (paR s))))/\bW W w'):=fun W hW=>(zh1 s W hW).mono fun _ _ h=>⟨h.1.v,h.2⟩
 have HB:Hid (∀W,Cl 11 #[.string s] W fun e w'=>(∃A c,e=.returned (.tuple #[.slice A (nsR (paR s)).length c,.agg #[.int .i64 (ptR (paR s)).1,.int .i64 (ptR (paR s)).2]])/\T.RdN w' A (nsR (paR s)))/\bW W w'):=fun W=>(zm4 s hs2 W).mono fun _ _ h=>⟨h.1.u,h.2⟩
 have hn:(nsR (paR s)).length<=2048:=by
  cases hr:paR s with
  | inr p=>exact Nat.zero_le _
  | inl gs =>
   obtain ⟨_,ns,_,h3,_,_,h4⟩:=znz hr;subst h3;exact h4
 have HT:Hid (∀W A1 A2 c1 c2,T.RdN W A1 (nsR (paR s))->T.RdN W A2 (nsR (paR s))->Cl 12 #[.slice A1 (nsR (paR s)).length c1,.slice A2 (nsR (paR s)).length c2] W (rB W (.bool true))):=fun W A1 A2 c1 c2 h3 h4=>(sameq A1 A2 c1 c2 _ (by omega) W h3 h4).mono fun e w' h=>⟨h.1,by obtain ⟨m,h5⟩:=h.2;rw [h5];exact T.below_drewN (bR _ _) _⟩
 have HY:Hid (∀(W w:World) v,w.ownsRow W.heap.size 65 7 v (nsR (paR s)).length (T.ndc (nsR (paR s)))->W.heap.size<=w.heap.size->Cl 10 #[v,.int .i64 (-4)] w fun e w'=>e=.returned (.tuple #[])/\w.grownBy w' v.ownBlock):=fun W w v h1 h2=>zfn (-4) v _ _ _ w h1 h2 (by omega)
 have HG:Hid (GW w):=hg;have hfe:=fx_neq;generalize gsR (psR s)=gs at *;generalize (ptR (psR s)).1=p1 at *;generalize (ptR (psR s)).2=p2 at *;generalize nsR (paR s)=ns at *;generalize (ptR (paR s)).1=r1 at *;generalize (ptR (paR s)).2=r2 at *;clear hg hs2 hbnd hn;go_enter Tryz.func3,Tryz.ntmps3;go_wp2_with fail;refine (HQ _).mono ?_;rintro e w3 ⟨⟨A3,c3,rfl,hr⟩,hb⟩;obtain ⟨w4,hw4⟩:∃x,(w3.alloc (.cells #[.slice A3 gs.length c3] 24)).alloc (.cells #[.int .i64 p1,.int .i64 p2] 27)=x:=⟨_,rfl⟩;have HO:=(show Hid (AtOw w w4 w3.heap.size (.slice A3 gs.length c3) p1 p2 gs) from by
  obtain ⟨q1,q2,q3⟩:=box2 w3 (.slice A3 gs.length c3) p1 p2;rw [hw4] at q1 q2 q3;exact ⟨hb.trans (q1.mono hb.size),q2,q3,hr.later q1⟩)
 have HE4:=hO hw4;clear hb HQ hr hw4;go_wp2_with fail;rw [HE4.out];generalize w3.heap.size=k3 at *;clear HE4;go_loopw [5] (fun t wr=>∃k:Nat,k<=2/\t=.int .i64 k/\Hid (AtOw w wr k3 (.slice A3 gs.length c3) p1 p2 gs)) (fun t _=>2 - (intOf t).toNat)
 case atStart=>exact ⟨0,by omega,by go_num,HO⟩
 case round =>
  obtain ⟨k,hk,rfl,HW⟩:=hrel;clear HO;by_cases hlt:k<2
  ·have z1:(k:Int)<2:=by omega
   clear HA HB HT HY;go_wp2_with fail;refine (HP _ (HG.later HW.b)).mono ?_;rintro e w5 ⟨⟨A5,c5,ov,rfl,ho,hd,hm⟩,hb⟩;obtain ⟨w6,hw6⟩:∃x,(w5.alloc (.cells #[.slice A5 gs.length c5] 24)).alloc (.cells #[.int .i64 p1,.int .i64 p2] 27)=x:=⟨_,rfl⟩;have HM:Hid (ov.map (fun x=>x.1.2)=gs):=hm;have H6:=(show Hid (AtOw w w6 k3 (.slice A3 gs.length c3) p1 p2 gs/\AtP wr w6 w5.heap.size (.slice A5 gs.length c5) p1 p2 ov gs) from by
    obtain ⟨q1,q2,q3⟩:=box2 w5 (.slice A5 gs.length c5) p1 p2;rw [hw6] at q1 q2 q3;have b6:=hb.trans (q1.mono hb.size);have g6:=(GrR.of ho hd).later q1;rw [hm] at g6;exact ⟨HW.later b6,⟨b6,q2,q3,g6,zf1 ho q1,hd.later q1⟩⟩)
   have HE6:=hO hw6;clear hb HP ho hd hm hw6;have c1:=H6.1.f.c0;have c2:=H6.1.f.c1;have c3':=H6.2.f.c0;have c4:=H6.2.f.c1;have g1:=H6.1.x.cl;have g2:=H6.2.x.cl;go_wp2_with (rw [HE6.out])
   clear c1 c2 c3' c4 HE6;generalize w5.heap.size=k5 at *;refine (HS _ _ _ H6.2.r H6.1.r).mono ?_;rintro e w7 ⟨rfl,hb⟩;have H7:Hid (AtOw w w7 k3 (.slice A3 gs.length c3) p1 p2 gs/\AtP wr w7 k5 (.slice A5 gs.length c5) p1 p2 ov gs):=⟨H6.1.later hb,H6.2.later hb⟩;clear hb HS H6 g1 g2;go_wp2_with fail;refine (HL _ (HG.later H7.1.b)).mono ?_;rintro e w8 ⟨rfl,hb⟩;have H8:Hid (AtOw w w8 k3 (.slice A3 gs.length c3) p1 p2 gs/\AtP wr w8 k5 (.slice A5 gs.length c5) p1 p2 ov gs):=⟨H7.1.later hb,H7.2.later hb⟩;clear hb HL H7;have g2:=H8.2.x.cl;go_wp2_with fail;refine (HZ wr _ _ _ H8.2.b H8.2.o H8.2.d HM.out).mono ?_;rintro e w9 ⟨rfl,hb⟩;have H9:=hO (HW.later hb);clear hb HZ H8 HM HW g2;go_wp2_with fail;go_roundw
   case rel=>exact ⟨k+1,by omega,by go_num,H9⟩
   case measure=>simp [intOf];omega
  ·obtain rfl:k=2:=by omega
   clear HP HS HL HZ;have HWb:Hid (bW w wr):=HW.b;clear HW;go_wp2_with fail;refine (HA _ (HG.later HWb.out)).mono ?_;rintro e w5 ⟨⟨A5,c5,rfl,ho⟩,hb⟩;obtain ⟨w6,hw6⟩:∃x,w5.alloc (.cells #[.int .i64 r1,.int .i64 r2] 27)=x:=⟨_,rfl⟩;have H6:=(show Hid (bW wr w6/\w6.ownsRow wr.heap.size 65 7 (.slice A5 ns.length c5) ns.length (T.ndc ns)) from by
    have q:=zaa w5 (.cells #[.int .i64 r1,.int .i64 r2] 27);rw [hw6] at q;exact ⟨hb.trans (q.mono hb.size),zf1 ho q⟩)
   have HE6:=hO hw6;clear hb ho hw6;go_wp2_with fail;rw [HE6.out];refine (HA _ (HG.later (HWb.trans (H6.1.mono HWb.size)))).mono ?_;rintro e w7 ⟨⟨A7,c7,rfl,ho⟩,hb⟩;obtain ⟨w8,hw8⟩:∃x,w7.alloc (.cells #[.int .i64 r1,.int .i64 r2] 27)=x:=⟨_,rfl⟩;have H8:=(show Hid (bW wr w8/\w8.ownsRow wr.heap.size 65 7 (.slice A5 ns.length c5) ns.length (T.ndc ns)/\w8.ownsRow w6.heap.size 65 7 (.slice A7 ns.length c7) ns.length (T.ndc ns)/\∀b,(Value.slice A5 ns.length c5).ownBlock=some b->b<w6.heap.size) from by
    have q:=zaa w7 (.cells #[.int .i64 r1,.int .i64 r2] 27);rw [hw8] at q;have b8:=hb.trans (q.mono hb.size);exact ⟨H6.1.trans (b8.mono H6.1.size),zf1 H6.2 b8,zf1 ho q,fun b e=>(H6.2.lt b e).2⟩)
   have HE8:=hO hw8;clear hb ho hw8 HE6 H6 HA HG;go_wp2_with fail;rw [HE8.out];refine (HY wr _ _ H8.2.1 H8.1.size).mono ?_;rintro e w9 ⟨rfl,hg9⟩;have H9:=(show Hid (bW w w9/\w9.ownsRow w6.heap.size 65 7 (.slice A7 ns.length c7) ns.length (T.ndc ns)) from ⟨HWb.trans ((H8.1.grown hg9 H8.1.size (fun k e=>(H8.2.1.lt k e).1)).mono HWb.size),zaj H8.2.2.1 fun q hq=>hg9.block q (H8.2.2.1.lt q hq).2 (fun e=>by
    have q1:=(H8.2.2.1.lt q hq).1;have q2:=H8.2.2.2 q e.symm;omega)⟩)
   clear hg9 HE8 H8 HY HWb;go_wp2_with fail;refine (HB _).mono ?_;rintro e w10 ⟨⟨A9,c9,rfl,hr⟩,hb⟩;obtain ⟨w11,hw11⟩:∃x,w10.alloc (.cells #[.int .i64 r1,.int .i64 r2] 27)=x:=⟨_,rfl⟩;have H11:=(show Hid (bW w w11/\T.RdN w11 A7 ns/\T.RdN w11 A9 ns) from by
    have q:=zaa w10 (.cells #[.int .i64 r1,.int .i64 r2] 27);rw [hw11] at q;have b8:=hb.trans (q.mono hb.size);obtain ⟨A,c,e1,e2⟩:=T.zhY (zf1 H9.2 b8) rfl
    cases e1
    exact ⟨H9.1.trans (b8.mono H9.1.size),e2,hr.below q (nL _)⟩)
   have HE11:=hO hw11;clear hb hr hw11 H9 HB;go_wp2_with fail;rw [HE11.out];refine (HT _ _ _ _ _ H11.2.1 H11.2.2).mono ?_;rintro e w12 ⟨rfl,hb⟩;have H12:Hid (bW w w12):=H11.1.trans (hb.mono H11.1.size);clear hb H11 HE11 HT;go_wp2_with fail;go_ret
   exact ⟨rfl,H12.out⟩
end Go.Proofs.YtkihfkcmcdiajabGreatDoor.N
