/- NotationReads holds of every text: Parse answers as the document's own reader does, the grammar or the fault; the laid tables runes.blocks and token.signs are tied to the program's text. -/
import Derived.Test.YtkihfkcmcdiajaaGreatDoorPr20
set_option maxRecDepth 100000
set_option maxHeartbeats 8000000
namespace Go.Proofs.YtkihfkcmcdiajaaGreatDoor.N
open Go.RowKit
theorem zpe (L:List (Rl×Value)):∀(k j:Nat) (x:Rl×Value) (u:Value),L[k]?=some x->(grV x)[j]?=some u->(grc L)[k * 2+j]?=some u:=by
 induction L with
 | nil=>intro k j t u h;simp at h
 | cons a L ih =>
  intro k j t u h hj;have e:grc (a::L)=grV a++grc L:=by unfold grc;rw [List.flatMap_cons]
  have hl:(grV a).length=2:=rfl;rw [e]
  cases k with
  | zero =>
   have h:a=t:=by simpa using h
   subst h;rw [Nat.zero_mul,Nat.zero_add,List.getElem?_append_left (by have:=(List.getElem?_eq_some_iff.1 hj).1;omega)];exact hj
  | succ k =>
   rw [List.getElem?_append_right (by omega),hl,show (k+1) * 2+j - 2=k * 2+j from by omega];exact ih k j t u (by simpa using h) hj
theorem znl {W:World} {B:Nat} {u:Value} {ov:List (Rl×Value)} (h:W.ownsRow B 41 2 u ov.length (grc ov)):∃A c,u=.slice A ov.length c/\∀(k:Nat) x,ov[k]?=some x->∃g,A=some ⟨g,0,none⟩/\g<W.heap.size/\W.cell? ⟨g,k * 2,none⟩=some (.string x.1.2.1)/\W.cell? ⟨g,k * 2+1,none⟩=some x.2:=by
 have hc:=h
 rcases h.2 with ⟨rfl,h0⟩ | ⟨g,cap,cur,rfl,_⟩
 ·refine ⟨none,0,by rw [h0],fun k x hk=>?_⟩
  rw [List.eq_nil_of_length_eq_zero h0] at hk;simp at hk
 ·refine ⟨_,cap,rfl,fun k x hk=>⟨g,rfl,(hc.lt g rfl).2,?_⟩⟩
  have key:∀j u,(grV x)[j]?=some u->W.cell? ⟨g,k * 2+j,none⟩=some u:=fun j u hj=>by
   have:=(hc.cells (g:=g) rfl) (k * 2+j) u (zpe ov k j x u hk hj)
   rwa [Addr.add_lit,Nat.zero_add] at this
  exact ⟨key 0 _ rfl,key 1 _ rfl⟩
theorem zhV {fn:Func} {R:Ending->World->Prop} {a:Act} {W:World} {s b:Nat} {p e:Int} (hF:fn.results=#[.cell s 27]) (hd:a.defers=[]) (h2:a.tmps.getD s undef=.pointer (some ⟨b,0,none⟩)) (hT:FX W b p e) (hR:R (.returned (.agg #[.int .i64 p,.int .i64 e])) W):bodyPost Tryz.prog fn R .ret a W:=by
 have c0:=hT.c0;have c1:=hT.c1;refine bodyPost_ret (v:=.agg #[.int .i64 p,.int .i64 e]) ?_ hd hR;simp only [Array.getD_eq_getD_getElem?] at h2;simp [results,hF,go_sem,h2,c0,c1]
theorem znm {W:World} {b:Nat} {p e:Int} (h:FX W b p e) (p2 e2:Int):FX ((W.setCell ⟨b,0,none⟩ (.int .i64 p2)).setCell ⟨b,1,none⟩ (.int .i64 e2)) b p2 e2:=by
 have h0:=heap_setCell_same _ b 0 _ 27 (.int .i64 p2) h.heap;have h1:=heap_setCell_same _ b 1 _ 27 (.int .i64 e2) h0;exact ⟨by rw [h1];simp⟩
def fltV (r:Option (Int×Int)):Value:=match r with
 | none=>.agg #[.int .i64 0,.int .i64 0]
 | some p=>.agg #[.int .i64 p.1,.int .i64 p.2]
theorem Rws.at {E:PE} {z:Nat} {w0 W:World} {u pv:Value} {ov:List (Rl×Value)} (h:Rws E z w0 W u pv ov) {k:Nat} {x:Rl×Value} (hx:ov[k]?=some x):∃g c,pv=.slice (some ⟨g,0,none⟩) ov.length c/\g<W.heap.size/\W.cell? ⟨g,k,none⟩=some (.int .i64 (plA E z x.1.1)):=by
 have hk:k<ov.length:=(List.getElem?_eq_some_iff.1 hx).1;obtain ⟨g,c,e,_,hl⟩:=h.p.form (by omega);subst e;refine ⟨g,c,rfl,hl,?_⟩;have:=h.p.cells (g:=g) rfl k (.int .i64 (plA E z x.1.1)) (by unfold plW;rw [List.getElem?_map,hx];rfl)
 rcases k with _ | k
 ·simpa [Addr.add] using this
 ·simpa [Addr.add] using this
structure AtZ (W wr:World) (u:Value):Prop where
 b:Below W.heap.size W wr
 g:GX wr W.heap.size u
 f:FX wr (W.heap.size+1) 0 0
theorem AtZ.later {W wr W':World} {u:Value} (h:AtZ W wr u) (hb:Below wr.heap.size wr W'):AtZ W W' u:=⟨h.b.trans (hb.mono h.b.size),h.g.below hb,h.f.below hb⟩
theorem AtZ.new (W:World) (u:Value):AtZ W ((W.alloc (.cells #[u] 24)).alloc fxZ) u :=
 ⟨((bR _ _).alloc (nL _) _).alloc (by rw [sA];omega) _,(GX.mk (heap_alloc_new W _)).below (zaa _ _),⟨by have h:=heap_alloc_new (W.alloc (.cells #[u] 24)) fxZ;(try unfold rB at h);rw [sA] at h;exact h⟩⟩
theorem AtZ.done {W wr:World} {u:Value} (h:AtZ W wr u) (p c:Int):FX ((wr.setCell ⟨W.heap.size+1,0,none⟩ (.int .i64 p)).setCell ⟨W.heap.size+1,1,none⟩ (.int .i64 c)) (W.heap.size+1) p c/\Below W.heap.size W ((wr.setCell ⟨W.heap.size+1,0,none⟩ (.int .i64 p)).setCell ⟨W.heap.size+1,1,none⟩ (.int .i64 c)) :=
 ⟨znm h.f p c,(h.b.setCell (p:=⟨W.heap.size+1,0,none⟩) (Nat.le_succ _) _).setCell (p:=⟨W.heap.size+1,1,none⟩) (Nat.le_succ _) _⟩
theorem ziD {E:PE} {z:Nat} {w0 W:World} {u pv:Value} {ov:List (Rl×Value)} (h:Rws E z w0 W u pv ov) (x:Rl×Value) (hx:ov[200]?=some x) (hN:ov.length<=65536):Calls Tryz.prog 29 #[.agg #[u],pv] W (rB W (.agg #[.int .i64 (plA E z x.1.1),.int .i64 2])):=by
 obtain ⟨g,c,rfl,lg,hc⟩:=h.at hx;have hk:200<ov.length:=(List.getElem?_eq_some_iff.1 hx).1;obtain ⟨A2,c2,hu⟩:=zag h.o;subst hu;generalize plA E z x.1.1=pl at *;have HA:=hO (AtZ.new W (.slice A2 ov.length c2));have hc1:(((W.alloc (.cells #[.slice A2 ov.length c2] 24)).alloc fxZ)).cell? ⟨g,200,none⟩=some (.int .i64 pl):=(HA.b.cell (p:=⟨g,200,none⟩) lg).trans hc;have z1:(200:Int)<(ov.length:Int):=by omega
 have q0:=HA.g.cl;have q1:=HA.f.c0;have q2:=HA.f.c1;have q3:=HA.f.f0;have q4:=HA.f.f1;obtain ⟨w1,hw1⟩:∃w,(W.alloc (.cells #[.slice A2 ov.length c2] 24)).alloc fxZ=w:=⟨_,rfl⟩;rw [hw1] at HA hc1 q0 q1 q2 q3 q4;have HE:=hO hw1;clear h hx hc lg hw1 hk;go_enter Tryz.func29,Tryz.ntmps29;go_wp2_with (rw [HE.out])
 have hd:=HA.done pl 2;refine zhV (s:=4) rfl rfl rfl hd.1 ?_;exact ⟨rfl,hd.2⟩
theorem zhj {E:PE} {z:Nat} {w0 W:World} {u pv:Value} {ov:List (Rl×Value)} (h:Rws E z w0 W u pv ov) (htx:∀x∈ov,∀n∈x.1.2.2,n.tx.size<=65536) (hln:∀x∈ov,x.1.2.2.length<=2000000000000) (hN:ov.length<=200):Calls Tryz.prog 29 #[.agg #[u],pv] W (rB W (fltV (zd3 E z 0 (ov.map (·.1))))):=by
 obtain ⟨A2,c2,hu⟩:=zag h.o;obtain ⟨A5,c5,hpv⟩:=zag h.p;subst hu hpv;have HR:=hO h;have HTx:=hO htx;have HLn:=hO hln;have HG:Hid (∀k,k<ov.length->∃x,ov[k]?=some x/\x∈ov):=fun k hk=>⟨_,gE hk,List.getElem_mem hk⟩
 have HA:=hO (AtZ.new W (.slice A2 ov.length c2));have z2:¬(200:Int)<(ov.length:Int):=by omega
 have HZ0:Hid (zd3 E z 0 (ov.map (·.1))=zd3 E z (smN ov 0) ((ov.drop 0).map (·.1))):=rfl;generalize zd3 E z 0 (ov.map (·.1))=R0 at *;have q0:=HA.g.cl;obtain ⟨w1,hw1⟩:∃w,(W.alloc (.cells #[.slice A2 ov.length c2] 24)).alloc fxZ=w:=⟨_,rfl⟩;rw [hw1] at HA q0;have HE:=hO hw1;clear h htx hln hw1;go_enter Tryz.func29,Tryz.ntmps29;go_wp2_with (rw [HE.out])
 clear q0 HE;go_loopw [5,6] (fun s t wr=>∃k:Nat,k<=ov.length/\smN ov k<=2048/\s=.int .i64 (smN ov k:Nat)/\t=.int .i64 k/\Hid (AtZ W wr (.slice A2 ov.length c2))/\Hid (R0=zd3 E z (smN ov k) ((ov.drop k).map (·.1)))) (fun _ t _=>ov.length - (intOf t).toNat)
 case atStart=>exact ⟨0,Nat.zero_le _,Nat.zero_le _,rfl,rfl,HA,HZ0⟩
 case round =>
  obtain ⟨k,hk,hsm,rfl,rfl,HW,HRk⟩:=hrel;clear HA HZ0;have q0:=HW.g.cl;by_cases hlt:k<ov.length
  ·obtain ⟨x,hx,hxm⟩:=HG k hlt
   have HSz:Hid (R0=if (T.ck x.1.2.2).2≠0 then some (plA E z x.1.1,(T.ck x.1.2.2).2) else if 2048<smN ov k+x.1.2.2.length then some (plA E z x.1.1,2) else zd3 E z (smN ov (k+1)) ((ov.drop (k+1)).map (·.1))):=by
    show R0=_
    rw [HRk.out,List.drop_eq_getElem_cons hlt,show ov[k]=x from (List.getElem?_eq_some_iff.1 hx).2,List.map_cons,zd3,zem hx]
   have hsm1:=zem hx;obtain ⟨m1,hm1⟩:∃m,m=smN ov (k+1):=⟨_,rfl⟩;rw [<-hm1] at hsm1 HSz;have hRw:=HR.later HW.b;obtain ⟨gp,cp,ep,lp,hp⟩:=hRw.at hx
   cases ep
   obtain ⟨A1,c1,e1,hc⟩:=znl hRw.o;obtain ⟨g,hgA,hglt,d0,d1⟩:=hc k x hx
   cases e1
   subst hgA;have hb1:=hRw.b.e x hxm;obtain ⟨A3,n3,hv3⟩:=zag hb1;have HCk:Hid (Cl 52 #[.slice A3 x.1.2.2.length n3] wr (rB wr (.tuple #[.int .i64 (T.ck x.1.2.2).1,.int .i64 (T.ck x.1.2.2).2]))):=by
    rw [hv3] at hb1;obtain ⟨A4,c4,e4,hrd⟩:=T.zkV hb1 rfl
    cases e4
    exact T.zix _ _ _ (by have:=HLn x hxm;omega) (fun n hn=>by have:=HTx x hxm n hn;omega) wr hrd
   have hlx:=HLn x hxm;rw [hv3] at d1;have HX:Hid (∀W',Below wr.heap.size wr W'->W'.cell? ⟨g,k * 2+1,none⟩=some (.slice A3 x.1.2.2.length n3)/\W'.cell? ⟨gp,k,none⟩=some (.int .i64 (plA E z x.1.1))):=fun W' hW=>⟨(hW.cell (p:=⟨g,k * 2+1,none⟩) hglt).trans d1,(hW.cell (p:=⟨gp,k,none⟩) lp).trans hp⟩
   obtain ⟨d2,d3⟩:=HX wr (bR _ _);clear d0 d1 hx hxm hb1 hv3 hc hRw hp HG HRk HTx HLn HR;generalize T.ck x.1.2.2=r at *;generalize x.1.2.2.length=nl at *;generalize plA E z x.1.1=p0 at *;have z0:(0:Int)<=(k:Int):=by omega
   have z1:(k:Int)<(ov.length:Int):=by omega
   go_wp2_with fail;refine HCk.mono ?_;rintro e w2 ⟨rfl,hb2⟩;have HW2:=hO (HW.later hb2);obtain ⟨y0,y1⟩:=HX w2 hb2;have g0:=HW2.g.cl;have q1:=HW2.f.c0;have q2:=HW2.f.c1;have q3:=HW2.f.f0;have q4:=HW2.f.f1;clear hb2 HCk HX HW q0 d2 d3;by_cases hr2:r.2=0
   ·have t1:(r.2 != 0)=false:=by rw [hr2];rfl
    have u1:IntKind.i64.wrap ((smN ov k:Nat)+(nl:Int))=(m1:Int):=by rw [wI];omega
    by_cases h48:2048<m1
    ·have HV:Hid (R0=some (p0,2)):=by show R0=_;rw [HSz.out,iN (by rw [hr2];simp),iP (by omega)]
     have t2:(2048:Int)<(m1:Int):=by omega
     clear HSz hr2 hsm1 hm1;generalize smN ov k=s0 at *;go_wp2_with fail;have hd:=HW2.done p0 2;refine zhV (s:=4) rfl rfl rfl hd.1 ?_;exact ⟨by rw [HV.out];rfl,hd.2⟩
    ·have HV:Hid (R0=zd3 E z m1 ((ov.drop (k+1)).map (·.1))):=by show R0=_;rw [HSz.out,iN (by rw [hr2];simp),iN (by omega)]
     have t2:¬(2048:Int)<(m1:Int):=by omega
     have HM:Hid (m1=smN ov (k+1)):=hm1;clear HSz hr2 hsm1 hm1;generalize hs0:smN ov k=s0 at *;clear hs0;go_wp2_with fail;go_roundw
     case rel=>exact ⟨k+1,by omega,by rw [<-HM.out];omega,by rw [<-HM.out],by go_num,HW2,by rw [<-HM.out];exact HV⟩
     case measure=>simp [intOf];omega
   ·have t1:(r.2 != 0)=true:=by simpa using hr2
    have HV:Hid (R0=some (p0,r.2)):=by show R0=_;rw [HSz.out,iP hr2]
    clear HSz hr2 hsm1 hm1;generalize smN ov k=s0 at *;go_wp2_with fail;have hd:=HW2.done p0 r.2;refine zhV (s:=4) rfl rfl rfl hd.1 ?_;exact ⟨by rw [HV.out];rfl,hd.2⟩
  ·obtain rfl:k=ov.length:=by omega
   have HV:Hid (R0=none):=by show R0=_;rw [HRk.out,List.drop_of_length_le (nL _)];rfl
   have q1:=HW.f.c0;have q2:=HW.f.c1;have q3:=HW.f.f0;have q4:=HW.f.f1;clear HG HRk HR HTx HLn;generalize smN ov ov.length=s0 at *;go_wp2_with fail;have hd:=HW.done 0 0;refine zhV (s:=4) rfl rfl rfl hd.1 ?_;exact ⟨by rw [HV.out];rfl,hd.2⟩
theorem znn {E:PE} {z:Nat} {w0 W:World} {u pv:Value} {ov:List (Rl×Value)} (h:Rws E z w0 W u pv ov) (htx:∀x∈ov,∀n∈x.1.2.2,n.tx.size<=65536) (hln:∀x∈ov,x.1.2.2.length<=2000000000000) (hN:ov.length<=65536):Calls Tryz.prog 29 #[.agg #[u],pv] W (rB W (fltV (szR E z (ov.map (·.1))))):=by
 unfold szR;rw [List.getElem?_map]
 cases hx:ov[200]? with
 | some x=>exact ziD h x hx hN
 | none=>exact zhj h htx hln (by have:=List.getElem?_eq_none_iff.1 hx;omega)
open Go.Proofs.YtkihfkcmcdiajaaGreatDoor.T (RdN below_drewN node_neq ndE)
theorem sameq (A1 A2:Option Addr) (c1 c2:Nat) (L:List Nd) (hl:L.length<=140737488355328) (w:World) (h1:RdN w A1 L) (h2:RdN w A2 L) :
  Calls Tryz.prog 15 #[.slice A1 L.length c1,.slice A2 L.length c2] w fun e w'=>e=.returned (.bool true)/\∃m,w'=w.drewN m:=by
 have H1:=hO h1;have H2:=hO h2;have HG:Hid (∀k,k<L.length->∃m,L[k]?=some m/\L≠[]):=fun k hk=>⟨_,gE hk,by rintro rfl;simp at hk⟩
 clear h1 h2;go_enter Tryz.func15,Tryz.ntmps15;go_wp2_with fail;go_loopw [5] (fun t wr=>∃k:Nat,k<=L.length/\t=.int .i64 k/\Hid (∃m,wr=w.drewN m)) (fun t _=>L.length - (intOf t).toNat)
 case atStart=>exact ⟨0,by omega,by go_num,⟨0,rfl⟩⟩
 case round =>
  obtain ⟨k,hk,rfl,HW⟩:=hrel;by_cases hlt:k<L.length
  ·obtain ⟨n,hn1,nl⟩:=HG k hlt
   have hB:Below w.heap.size w wr:=by obtain ⟨m,rfl⟩:=HW.out;exact below_drewN (bR _ _) _
   obtain ⟨g1,o1,rfl,l1,q1⟩:=H1 nl;obtain ⟨g2,o2,rfl,l2,q2⟩:=H2 nl;obtain ⟨a0,a1,a2,a3,a4,a5,a6⟩:=(q1.same (hB.block g1 l1)) k n hn1;obtain ⟨d0,d1,d2,d3,d4,d5,d6⟩:=(q2.same (hB.block g2 l2)) k n hn1;have z0:(0:Int)<=(k:Int):=by omega
   have z1:(k:Int)<(L.length:Int):=by omega
   clear HG H1 H2 q1 q2 nl hn1 hB;have hneq:=node_neq n n;rw [T.zlw] at hneq;go_wp2_with fail;go_quiet (fail)
   have HW2:Hid (∃m,wr.drewN nq=w.drewN m):=by obtain ⟨m,e⟩:=HW.out;exact ⟨m+nq,by rw [e,World.drewN_drewN]⟩
   generalize wr.drewN nq=w2 at *;clear hneq a0 a1 a2 a3 a4 a5 a6 d0 d1 d2 d3 d4 d5 d6 HW;go_wp2_with fail;go_roundw
   case rel=>exact ⟨k+1,by omega,by go_num,HW2⟩
   case measure=>simp [intOf];omega
  ·obtain rfl:k=L.length:=by omega
   clear HG H1 H2;go_wp2_with fail;go_ret
   exact ⟨rfl,HW.out⟩
def GrR (W:World) (u:Value) (gs:List (ByteArray×List Nd)):Prop:=∃A c,u=.slice A gs.length c/\∀(k:Nat) g,gs[k]?=some g->∃b A2 c2,A=some ⟨b,0,none⟩/\b<W.heap.size/\W.cell? ⟨b,k * 2,none⟩=some (.string g.1)/\W.cell? ⟨b,k * 2+1,none⟩=some (.slice A2 g.2.length c2)/\RdN W A2 g.2
theorem GrR.later {W W':World} {u:Value} {gs:List (ByteArray×List Nd)} (h:GrR W u gs) (hb:Below W.heap.size W W'):GrR W' u gs:=by
 obtain ⟨A,c,e,h⟩:=h;refine ⟨A,c,e,fun k g hg=>?_⟩;obtain ⟨b,A2,c2,h1,h2,h3,h4,h5⟩:=h k g hg;exact ⟨b,A2,c2,h1,nM h2 hb.size,(hb.cell (p:=⟨b,k * 2,none⟩) h2).trans h3,(hb.cell (p:=⟨b,k * 2+1,none⟩) h2).trans h4,h5.below hb (nL _)⟩
theorem GrR.nil (W:World):GrR W (.slice none 0 0) []:=⟨none,0,rfl,fun k g hg=>by simp at hg⟩
theorem GrR.of {w W:World} {u:Value} {ov:List (Rl×Value)} (h:W.ownsRow w.heap.size 41 2 u ov.length (grc ov)) (hb:Bds w W ov):GrR W u (ov.map fun x=>x.1.2):=by
 obtain ⟨A,c,e,hc⟩:=znl h;refine ⟨A,c,by rw [List.length_map];exact e,fun k g hg=>?_⟩;rw [List.getElem?_map] at hg
 cases hx:ov[k]? with
 | none=>rw [hx] at hg;cases hg
 | some x =>
  rw [hx] at hg;obtain rfl:x.1.2=g:=by simpa using hg
  obtain ⟨b,h1,h2,h3,h4⟩:=hc k x hx;obtain ⟨A2,c2,h5,h6⟩:=T.zkV (hb.e x (List.mem_of_getElem? hx)) rfl;exact ⟨b,A2,c2,h1,h2,h3,by rw [h4,h5],h6⟩
structure AtG (w wr:World) (u1 u2:Value) (gs:List (ByteArray×List Nd)):Prop where
 b:Below w.heap.size w wr
 x1:GX wr w.heap.size u1
 x2:GX wr (w.heap.size+1) u2
 r1:GrR wr u1 gs
 r2:GrR wr u2 gs
theorem AtG.later {w wr W':World} {u1 u2:Value} {gs:List (ByteArray×List Nd)} (h:AtG w wr u1 u2 gs) (hb:Below wr.heap.size wr W'):AtG w W' u1 u2 gs :=
 ⟨h.b.trans (hb.mono h.b.size),h.x1.below hb,h.x2.below hb,h.r1.later hb,h.r2.later hb⟩
theorem zgq {gs:List (ByteArray×List Nd)} (hl:∀g∈gs,g.2.length<=2048) (hn:gs.length<=200) {w:World} {u1 u2:Value} (h1:GrR w u1 gs) (h2:GrR w u2 gs):Calls Tryz.prog 12 #[.agg #[u1],.agg #[u2]] w (rB w (.bool true)):=by
 have HA:=(show Hid (AtG w ((w.alloc (.cells #[u1] 24)).alloc (.cells #[u2] 24)) u1 u2 gs) from
  ⟨((bR _ _).alloc (nL _) _).alloc (by rw [sA];omega) _,(GX.mk (heap_alloc_new w _)).below (zaa _ _),⟨by have h:=heap_alloc_new (w.alloc (.cells #[u1] 24)) (.cells #[u2] 24);(try unfold rB at h);rw [sA] at h;exact h⟩,(h1.later (zaa _ _)).later (zaa _ _),(h2.later (zaa _ _)).later (zaa _ _)⟩)
 obtain ⟨A1,c1,rfl,_⟩:=h1;obtain ⟨A2,c2,rfl,_⟩:=h2;have HG:Hid (∀k,k<gs.length->∃g,gs[k]?=some g/\g.2.length<=2048):=fun k hk=>⟨_,gE hk,hl _ (List.getElem_mem hk)⟩
 clear hl;have q1:=HA.x1.cl;have q2:=HA.x2.cl;go_enter Tryz.func12,Tryz.ntmps12;go_wp2_with fail;generalize (w.alloc (.cells #[.slice A1 gs.length c1] 24)).alloc (.cells #[.slice A2 gs.length c2] 24)=w1 at *;go_wp2_with fail;clear q1 q2;go_loopw [5] (fun t wr=>∃k:Nat,k<=gs.length/\t=.int .i64 k/\Hid (AtG w wr (.slice A1 gs.length c1) (.slice A2 gs.length c2) gs)) (fun t _=>gs.length - (intOf t).toNat)
 case atStart=>exact ⟨0,by omega,by go_num,HA⟩
 case round =>
  obtain ⟨k,hk,rfl,HW⟩:=hrel;clear HA;have q1:=HW.x1.cl;have q2:=HW.x2.cl;by_cases hlt:k<gs.length
  ·obtain ⟨g,hg,hgl⟩:=HG k hlt
   obtain ⟨A3,c3,e3,hc3⟩:=HW.r1;obtain ⟨A4,c4,e4,hc4⟩:=HW.r2;obtain ⟨b1,B1,d1,hA1,l1,y0,y1,r1⟩:=hc3 k g hg;obtain ⟨b2,B2,d2,hA2,l2,x0,x1,r2⟩:=hc4 k g hg
   cases e3
   cases e4
   subst hA1 hA2;have HS:Hid (∀n,Cl 15 #[.slice B1 g.2.length d1,.slice B2 g.2.length d2] (wr.drewN n) fun e w'=>e=.returned (.bool true)/\∃m,w'=(wr.drewN n).drewN m):=fun n=>sameq B1 B2 d1 d2 g.2 (by omega) _ (r1.below (below_drewN (bR _ _) _) (nL _)) (r2.below (below_drewN (bR _ _) _) (nL _))
   have z0:(0:Int)<=(k:Int):=by omega
   have z1:(k:Int)<(gs.length:Int):=by omega
   clear HG hc3 hc4 r1 r2 hg hgl;generalize g.2.length=gl at *;generalize g.1=nm at *;go_wp2_with fail;go_quiet ((go_at_call 15;exact Calls.quiet_of (HS.out _)))
   have HW2:Hid (AtG w (wr.drewN nq) (.slice (some ⟨b1,0,none⟩) gs.length c1) (.slice (some ⟨b2,0,none⟩) gs.length c2) gs):=HW.later (below_drewN (bR _ _) _);generalize wr.drewN nq=w2 at *;clear HW q1 q2 y0 y1 x0 x1;go_wp2_with fail;go_roundw
   case rel=>exact ⟨k+1,by omega,by go_num,HW2⟩
   case measure=>simp [intOf];omega
  ·obtain rfl:k=gs.length:=by omega
   clear HG;go_wp2_with fail;go_ret
   exact ⟨rfl,HW.b⟩
end Go.Proofs.YtkihfkcmcdiajaaGreatDoor.N
namespace Go.Proofs.YtkihfkcmcdiajaaGreatDoor
open Go.RowKit
def sgF (s:ByteArray) (b n k:Nat):Bool:=decide ((sgn k).length=n)&&pfx s b (sgn k)
def sgL (s:ByteArray) (b n:Nat):Nat->Nat->Option Nat
 | 0,_=>none
 | f+1,k=>if sgF s b n k=true then some k else sgL s b n f (k+1)
abbrev zpf (b n k:Nat):Tk:=⟨k,0,b,(b+n:Nat),⟨#[]⟩,0,0,0,0⟩
def sgR (s:ByteArray) (b:Nat):Sum Tk (Nat×Int):=match sgL s b 2 30 1 with
 | some k=>.inl (zpf b 2 k)
 | none=>match sgL s b 1 30 1 with
  | some k=>.inl (zpf b 1 k)
  | none=>.inr (b,50)
def zd7 (c0 c1:Int) (n:Nat):Nat->Nat->Option Nat
 | 0,_=>none
 | f+1,k=>if (sgn k).length=n/\pfC c0 c1 (sgn k)=true then some k else zd7 c0 c1 n f (k+1)
theorem zpg (k:Nat):(sgn k).length<=2:=by
 by_cases h6:k=6
 ·subst h6;decide
 by_cases h27:k=27
 ·subst h27;decide
 by_cases h7:k=7
 ·subst h7;decide
 by_cases h8:k=8
 ·subst h8;decide
 by_cases h9:k=9
 ·subst h9;decide
 by_cases h10:k=10
 ·subst h10;decide
 by_cases h11:k=11
 ·subst h11;decide
 by_cases h12:k=12
 ·subst h12;decide
 by_cases h16:k=16
 ·subst h16;decide
 by_cases h17:k=17
 ·subst h17;decide
 by_cases h18:k=18
 ·subst h18;decide
 by_cases h22:k=22
 ·subst h22;decide
 by_cases h23:k=23
 ·subst h23;decide
 by_cases h24:k=24
 ·subst h24;decide
 by_cases h25:k=25
 ·subst h25;decide
 by_cases h26:k=26
 ·subst h26;decide
 by_cases h19:k=19
 ·subst h19;decide
 by_cases h20:k=20
 ·subst h20;decide
 unfold sgn;simp [*]
theorem sgL_C (s:ByteArray) (b n:Nat):∀f k,sgL s b n f k=zd7 (chr s b) (chr s (b+1)) n f k:=by
 intro f
 induction f with
 | zero=>intro k;rfl
 | succ f ih =>
  intro k;rw [sgL,zd7,ih,sgF,pfx_C s b (sgn k) (zpg k)];simp only [Bool.and_eq_true,decide_eq_true_eq]
def sgRC (c0 c1:Int):Int×Nat:=match zd7 c0 c1 2 30 1 with
 | some k=>(k,2)
 | none=>match zd7 c0 c1 1 30 1 with
  | some k=>(k,1)
  | none=>(0,0)
theorem sgRC_C (c0 c1:Int) (h37:c0≠37) (h94:c0≠94) (hg:¬(c0=123/\c1=58)):sgRC c0 c1=((sgC c0 c1).1,(sgC c0 c1).2.length):=by
 unfold sgRC sgC;rw [iN h37,iN h94];by_cases h60:c0=60
 ·subst h60
  by_cases a45:c1=45 <;> first | (exfalso;exact hg ⟨rfl,by assumption⟩) | (simp [zd7,sgn,pfC, *])
 by_cases h45:c0=45
 ·subst h45
  by_cases a62:c1=62 <;> first | (exfalso;exact hg ⟨rfl,by assumption⟩) | (simp [zd7,sgn,pfC, *])
 by_cases h47:c0=47
 ·subst h47
  simp [zd7,sgn,pfC]
 by_cases h38:c0=38
 ·subst h38
  simp [zd7,sgn,pfC]
 by_cases h33:c0=33
 ·subst h33
  simp [zd7,sgn,pfC]
 by_cases h63:c0=63
 ·subst h63
  simp [zd7,sgn,pfC]
 by_cases h42:c0=42
 ·subst h42
  simp [zd7,sgn,pfC]
 by_cases h43:c0=43
 ·subst h43
  simp [zd7,sgn,pfC]
 by_cases h40:c0=40
 ·subst h40
  simp [zd7,sgn,pfC]
 by_cases h41:c0=41
 ·subst h41
  simp [zd7,sgn,pfC]
 by_cases h46:c0=46
 ·subst h46
  simp [zd7,sgn,pfC]
 by_cases h123:c0=123
 ·subst h123
  by_cases a58:c1=58 <;> by_cases a124:c1=124 <;> by_cases a126:c1=126 <;> first | (exfalso;exact hg ⟨rfl,by assumption⟩) | (simp [zd7,sgn,pfC, *])
 by_cases h58:c0=58
 ·subst h58
  by_cases a125:c1=125 <;> first | (exfalso;exact hg ⟨rfl,by assumption⟩) | (simp [zd7,sgn,pfC, *])
 by_cases h124:c0=124
 ·subst h124
  by_cases a125:c1=125 <;> first | (exfalso;exact hg ⟨rfl,by assumption⟩) | (simp [zd7,sgn,pfC, *])
 by_cases h126:c0=126
 ·subst h126
  by_cases a125:c1=125 <;> first | (exfalso;exact hg ⟨rfl,by assumption⟩) | (simp [zd7,sgn,pfC, *])
 by_cases h125:c0=125
 ·subst h125
  simp [zd7,sgn,pfC]
 simp [zd7,sgn,pfC, *]
theorem sgR_C (s:ByteArray) (b:Nat):sgR s b=if (sgRC (chr s b) (chr s (b+1))).1=0 then .inr (b,50) else .inl ⟨(sgRC (chr s b) (chr s (b+1))).1,0,b,(b+(sgRC (chr s b) (chr s (b+1))).2:Nat),⟨#[]⟩,0,0,0,0⟩:=by
 have hpos:∀n f k j,1<=k->zd7 (chr s b) (chr s (b+1)) n f k=some j->1<=j:=by
  intro n f
  induction f with
  | zero=>intro k j _ h;cases h
  | succ f ih =>
   intro k j hk h;rw [zd7] at h
   split at h
   ·cases h;exact hk
   ·exact ih _ _ (by omega) h
 unfold sgR sgRC;rw [sgL_C,sgL_C]
 cases h2:zd7 (chr s b) (chr s (b+1)) 2 30 1 with
 | some k =>
  have:=hpos _ _ _ _ (by omega) h2;dsimp only;rw [iN (by omega)]
 | none =>
  dsimp only
  cases h1:zd7 (chr s b) (chr s (b+1)) 1 30 1 with
  | some k =>
   have:=hpos _ _ _ _ (by omega) h1;dsimp only;rw [iN (by omega)]
  | none=>dsimp only;rw [iP rfl]
theorem zph (s:ByteArray) (b:Nat) (l:List UInt8) (h:b+l.length<=s.size):pfx s b l=((s.extract b (b+l.length)).data.toList==l):=by
 induction l generalizing b with
 | nil =>
  have:(s.extract b (b+([]:List UInt8).length)).data.toList=[]:=by
   have h1:(s.extract b (b+([]:List UInt8).length)).size=0:=by rw [ByteArray.size_extract];simp;omega
   exact List.eq_nil_of_length_eq_zero h1
  rw [this];rfl
 | cons c l ih =>
  rw [List.length_cons] at h;have hb:b<s.size:=by omega
  have e:(s.extract b (b+(c::l).length)).data.toList=s[b]::(s.extract (b+1) (b+1+l.length)).data.toList:=by
   have h1:s.data.size=s.size:=rfl;have hd:b<s.data.size:=hb;rw [ByteArray.data_extract,ByteArray.data_extract,Array.toList_extract,Array.toList_extract,List.extract_eq_take_drop,List.extract_eq_take_drop,List.length_cons,
    List.drop_eq_getElem_cons (by rw [Array.length_toList];omega),show b+(l.length+1) - b=l.length+1 from by omega,show b+1+l.length - (b+1)=l.length from by omega,List.take_succ_cons]
   rfl
  rw [pfx,e,ih (b+1) (by omega),zam hb]
  show _=(s[b]==c&&_)
  congr 1
  by_cases q:s[b]=c
  ·rw [q];simp
  ·have h2:¬(s[b].toNat:Int)=(c.toNat:Int):=fun e=>q (UInt8.toNat_inj.1 (by omega))
   rw [bF q,bF h2]
theorem zmK (s:ByteArray) (b:Nat):∀(l:List UInt8),b<=s.size->s.size<b+l.length->pfx s b l=false:=by
 intro l hb h
 cases hp:pfx s b l with
 | false=>rfl
 | true =>
  exfalso
  have key:∀(l:List UInt8) (i:Nat),i<=s.size->pfx s i l=true->i+l.length<=s.size:=by
   intro l
   induction l with
   | nil=>intro i h _;exact h
   | cons c l ih =>
    intro i h hp;rw [pfx,Bool.and_eq_true] at hp;have h1:i<s.size:=zaB (by rw [beq_iff_eq.1 hp.1];omega);have:=ih (i+1) (by omega) hp.2;rw [List.length_cons];omega
  have:=key l b hb hp;omega
structure AtZ (w wr:World):Prop where
 b:Below w.heap.size w wr
 x:TX wr w.heap.size tk0
theorem AtZ.step {w wr W:World} (h:AtZ w wr) (hb:Below wr.heap.size wr W):AtZ w W:=⟨h.b.trans (hb.mono h.b.size),h.x.below hb⟩
theorem zmL (s:ByteArray) (b:Nat) (hs:s.size<=140737488355000) (hb:b<s.size) (w:World):Calls Tryz.prog 67 #[.string s,.int .i64 b] w (rB w (zcs (sgR s b))):=by
 have HWr:Hid (∀i e w,Cl 58 #[.int .i64 i,.int .i64 e] w fun e' w'=>e'=.returned (.tuple #[tkG tk0,.int .i64 i,.int .i64 e])/\Below w.heap.size w w'):=fun i e w=>zbO i e w
 have HSi:Hid (∀k w,1<=k->k<=30->Cl 72 #[.int .i64 ((k:Nat):Int)] w (rB w (.string ⟨(sgn k).toArray⟩))):=fun k w h1 h2=>zoK k h1 h2 w
 have H0:Hid (AtZ w (w.alloc (tkO tk0))):=⟨zaa w _,TX.new w tk0⟩;have HR:=(show Hid (sgR s b=match sgL s b 2 30 1 with
  | some k=>.inl (zpf b 2 k)
  | none=>match sgL s b 1 30 1 with
   | some k=>.inl (zpf b 1 k)
   | none=>.inr (b,50)) from rfl)
 go_enter Tryz.func67,Tryz.ntmps67;go_wp2_with fail;go_loopw [7] (fun t wr=>∃n:Nat,n<=2/\t=.int .i64 n/\Hid (AtZ w wr)/\Hid ((n<=1->sgL s b 2 30 1=none)/\(n=0->sgL s b 1 30 1=none))) (fun t _=>(intOf t).toNat)
 case atStart=>exact ⟨2,by omega,rfl,H0,⟨fun q=>by omega,fun q=>by omega⟩⟩
 case round =>
  obtain ⟨n,hn,rfl,HW,HP⟩:=hrel;clear H0;by_cases hn0:n=0
  ·subst hn0
   have HE:Hid (sgR s b=.inr (b,50)):=by show sgR s b=_;rw [HR.out,HP.1 (by omega),HP.2 rfl]
   clear HSi HR HP;go_wp2_with fail;refine (HWr _ _ _).mono ?_;rintro e w3 ⟨rfl,b3⟩;have HX3:Hid (AtZ w w3):=HW.step b3;clear b3 HW HWr;obtain ⟨c0,c1,c2,c3,c4,c5,c6,c7,c8⟩:=HX3.x.cells;obtain ⟨f0,f1',f2',f3,f4,f5,f6,f7,f8⟩:=HX3.x.fz;go_wp2_with fail;exact zai rfl rfl rfl rfl rfl (zar HX3.x tk0) ⟨by rw [HE.out];rfl,zac HX3.b (nL _) tk0⟩
  ·have t1:(1:Int)<=(n:Int):=by omega
   go_wp2_with fail;obtain ⟨wO,rfl⟩:∃W,W=wr:=⟨wr,rfl⟩;go_loopw [8] (fun t wr=>∃k:Nat,1<=k/\k<=31/\t=.int .i64 k/\Hid (AtZ w wr)/\Hid (sgL s b n (31 - k) k=sgL s b n 30 1)) (fun t _=>31 - (intOf t).toNat)
   case atStart=>exact ⟨1,by omega,by omega,by go_num,HW,rfl⟩
   case round =>
    obtain ⟨k,hk1,hk2,rfl,HV,HK⟩:=hrel;clear HW;by_cases hk:k<=30
    ·have z1:(k:Int)<=30:=by omega
     have HSk:=(show Hid _ from fun w=>HSi k w hk1 hk);have HU:Hid (sgL s b n 30 1=if sgF s b n k=true then some k else sgL s b n (31 - (k+1)) (k+1)):=by
      show sgL s b n 30 1=_
      rw [<-HK.out,show 31 - k=(31 - (k+1))+1 from by omega,sgL]
     have hsz:(⟨(sgn k).toArray⟩:ByteArray).size=(sgn k).length:=by show (sgn k).toArray.size=_;simp
     have HF1:Hid (¬(sgn k).length=n->sgF s b n k=false):=fun q=>by unfold sgF;rw [dF q];rfl
     have HF2:Hid ((sgn k).length=n->¬b+n<=s.size->sgF s b n k=false):=fun q q2=>by unfold sgF;rw [zmK s b _ (by omega) (by omega),Bool.and_false]
     have HF3:Hid ((sgn k).length=n->b+n<=s.size->sgF s b n k=((s.extract b (b+n)).toList==sgn k)):=fun q q2=>by unfold sgF;rw [decide_eq_true q,Bool.true_and,zph s b _ (by omega),q,ByteArray.toList_eq]
     by_cases hl:(sgn k).length=n
     ·by_cases hin:b+n<=s.size
      ·have hf:=HF3 hl hin
       have z2:(b:Int)+(n:Int)<=(s.size:Int):=by omega
       have z3:(0:Int)<=(b:Int):=by omega
       have z4:(b:Int)<=(b:Int)+(n:Int):=by omega
       have v1:(((⟨(sgn k).toArray⟩:ByteArray).size:Int)==(n:Int))=true:=by rw [hsz,hl];exact beq_self_eq_true _
       cases hq:((s.extract b (b+n)).toList==sgn k) with
       | true =>
        rw [hq] at hf;have HE:Hid (sgR s b=.inl (zpf b n k)):=by
         show sgR s b=_
         have hL:sgL s b n 30 1=some k:=by rw [HU.out,iP hf]
         by_cases h2:n=2
         ·subst h2;rw [HR.out,hL]
         ·obtain rfl:n=1:=by omega
          rw [HR.out,HP.1 (by omega),hL]
        clear HF1 HF2 HF3 HU HK HSi HWr HR HP hf hin hsz;go_wp2_with fail;refine (HSk _).mono ?_;rintro e w3 ⟨rfl,b3⟩;have HV3:Hid (AtZ w w3):=HV.step b3;clear b3 HV HSk;obtain ⟨c0,c1,c2,c3,c4,c5,c6,c7,c8⟩:=HV3.x.cells;obtain ⟨f0,f1',f2',f3,f4,f5,f6,f7,f8⟩:=HV3.x.fz;go_wp2_with fail;exact zai rfl rfl rfl rfl rfl (zar HV3.x (zpf b n k)) ⟨by rw [HE.out];rfl,zac HV3.b (nL _) (zpf b n k)⟩
       | false =>
        rw [hq] at hf;have HK2:Hid (sgL s b n (31 - (k+1)) (k+1)=sgL s b n 30 1):=by show _=sgL s b n 30 1;rw [HU.out,iN (by rw [hf];decide)]
        clear HF1 HF2 HF3 HU HK HSi HWr HR HP hf hin hsz;go_wp2_with fail;refine (HSk _).mono ?_;rintro e w3 ⟨rfl,b3⟩;have HV3:Hid (AtZ w w3):=HV.step b3;clear b3 HV HSk;go_wp2_with fail;go_roundw
        case rel=>exact ⟨k+1,by omega,by omega,by go_num,HV3,HK2⟩
        case measure=>simp [intOf];omega
      ·have hf:=HF2 hl hin
       have z2:¬(b:Int)+(n:Int)<=(s.size:Int):=by omega
       have v1:(((⟨(sgn k).toArray⟩:ByteArray).size:Int)==(n:Int))=true:=by rw [hsz,hl];exact beq_self_eq_true _
       have HK2:Hid (sgL s b n (31 - (k+1)) (k+1)=sgL s b n 30 1):=by show _=sgL s b n 30 1;rw [HU.out,iN (by rw [hf];decide)]
       clear HF1 HF2 HF3 HU HK HSi HWr HR HP hf hin hsz;go_wp2_with fail;refine (HSk _).mono ?_;rintro e w3 ⟨rfl,b3⟩;have HV3:Hid (AtZ w w3):=HV.step b3;clear b3 HV HSk;go_wp2_with fail;go_roundw
       case rel=>exact ⟨k+1,by omega,by omega,by go_num,HV3,HK2⟩
       case measure=>simp [intOf];omega
     ·have hf:=HF1 hl
      have v1:(((⟨(sgn k).toArray⟩:ByteArray).size:Int)==(n:Int))=false:=by rw [hsz,beq_eq_false_iff_ne];omega
      have HK2:Hid (sgL s b n (31 - (k+1)) (k+1)=sgL s b n 30 1):=by show _=sgL s b n 30 1;rw [HU.out,iN (by rw [hf];decide)]
      clear HF1 HF2 HF3 HU HK HSi HWr HR HP hf hsz hl;generalize ByteArray.mk (sgn k).toArray=tx at *;go_wp2_with fail;refine (HSk _).mono ?_;rintro e w3 ⟨rfl,b3⟩;have HV3:Hid (AtZ w w3):=HV.step b3;clear b3 HV HSk;go_wp2_with fail;go_roundw
      case rel=>exact ⟨k+1,by omega,by omega,by go_num,HV3,HK2⟩
      case measure=>simp [intOf];omega
    ·obtain rfl:k=31:=by omega
     have z1:¬((31:Nat):Int)<=30:=by omega
     have HK2:Hid (sgL s b n 30 1=none):=HK.symm.trans rfl;have HP2:=(show Hid ((n - 1<=1->sgL s b 2 30 1=none)/\(n - 1=0->sgL s b 1 30 1=none)) from by
      by_cases h2:n=2
      ·subst h2;exact ⟨fun _=>HK2.out,fun q=>by omega⟩
      ·obtain rfl:n=1:=by omega
       exact ⟨fun _=>HP.1 (by omega),fun _=>HK2.out⟩)
     clear HK HK2 HSi HWr HR HP;obtain ⟨n1,hn1⟩:∃m,m=n - 1:=⟨_,rfl⟩;rw [<-hn1] at HP2;have u1:IntKind.i64.wrap ((n:Int) - 1)=(n1:Int):=by rw [wI];omega
     have hn2:n1<n:=by omega
     clear hn1;go_wp2_with fail;go_roundw
     case rel=>exact ⟨n1,by omega,rfl,HV,HP2⟩
     case measure=>simp [intOf];omega
theorem hx7_sp (s:ByteArray):∀(k i:Nat),hx7 s i k=if spN hxB s i - i<=k then spN hxB s i else i+k:=by
 intro k
 induction k with
 | zero =>
  intro i;have:=zbd hxB s (by decide) i;rw [hx7]
  split <;> omega
 | succ k ih =>
  intro i;rw [hx7];by_cases h:0<=zaI (chr s i)
  ·rw [iP h,ih (i+1)]
   have h1:=(za7 (P:=hxB) (s:=s) (i:=i) (by decide) (hxB_hexV.2 h)).2;have:=zbd hxB s (by decide) (i+1);rw [h1];by_cases q:spN hxB s (i+1) - (i+1)<=k
   ·rw [iP q,iP (by omega)]
   ·rw [iN q,iN (by omega)];omega
  ·have h1:spN hxB s i=i:=zbm (by
    cases hh:hxB (chr s i) with
    | false=>rfl
    | true=>exact absurd (hxB_hexV.1 hh) h)
   rw [iN h,h1,iP (by omega)]
theorem zk9 (s:ByteArray) (i:Nat):zbT s i=if spN hxB s i - i<=7 then spN hxB s i else i+7:=hx7_sp s 7 i
theorem pt_ok {s:ByteArray} {a:Nat} (h:(ptP s a).2.2=true):zbT s a=(ptP s a).2.1/\zbT s a≠a/\¬a+6<zbT s a/\zaF s a 16 (zbT s a - a)=(ptP s a).1/\(ptP s a).1<=1114111:=by
 have hbd:=zc9 h;have hge:=zbd hxB s (by decide) a;rw [zk9];unfold ptP at h hbd ⊢
 split at h
 ·cases h
 ·next q =>
  rw [iN q] at hbd;rw [iN q,iP (by omega)];exact ⟨rfl,by omega,by omega,rfl,hbd⟩
theorem pt_no {s:ByteArray} {a:Nat} (h:(ptP s a).2.2=false):zbT s a=a∨a+6<zbT s a∨1114111<zaF s a 16 (zbT s a - a):=by
 have hge:=zbd hxB s (by decide) a;rw [zk9];unfold ptP at h
 split at h
 ·next q =>
  rcases q with q | q
  ·left;rw [q];rw [iP (by omega)]
  ·right;left
   split <;> omega
 ·next q =>
  right;right
  rw [iP (by omega)];have:=of_decide_eq_false h;omega
theorem zmM (s:ByteArray) (b:Nat):zcb s b=zbY s b:=by
 unfold zcb zbY;dsimp only
 cases h1:(ptP s (b+3)).2.2 with
 | false =>
  rw [iP rfl]
  rcases pt_no h1 with q | q | q
  ·rw [iP (.inl q)]
  ·rw [iP (.inr (.inl q))]
  ·by_cases c:zbT s (b+3)=b+3∨b+3+6<zbT s (b+3)∨(if chr s (zbT s (b+3))=45 then zbT s (zbT s (b+3)+1) else zbT s (b+3))=(if chr s (zbT s (b+3))=45 then zbT s (b+3)+1 else b+3)∨(if chr s (zbT s (b+3))=45 then zbT s (b+3)+1 else b+3)+6<(if chr s (zbT s (b+3))=45 then zbT s (zbT s (b+3)+1) else zbT s (b+3))∨chr s (if chr s (zbT s (b+3))=45 then zbT s (zbT s (b+3)+1) else zbT s (b+3))≠125
   ·rw [iP c]
   ·rw [iN c,iP (by omega)]
 | true =>
  obtain ⟨a1,a2,a3,a4,a5⟩:=pt_ok h1;rw [iN (by decide),a1,<-a4,a1];rw [a1] at a2 a3 a4;by_cases h45:chr s (ptP s (b+3)).2.1=45
  ·rw [iP h45,iP h45,iP h45]
   cases h2:(ptP s ((ptP s (b+3)).2.1+1)).2.2 with
   | false =>
    rw [iP (.inl rfl)]
    rcases pt_no h2 with q | q | q
    ·rw [iP (.inr (.inr (.inl q)))]
    ·rw [iP (.inr (.inr (.inr (.inl q))))]
    ·split
     ·rfl
     ·rw [iP (.inr q)]
   | true =>
    obtain ⟨b1,b2,b3,b4,b5⟩:=pt_ok h2;rw [b1];rw [b1] at b2 b3 b4;rw [b4];by_cases hlt:(ptP s ((ptP s (b+3)).2.1+1)).1<zaF s (b+3) 16 ((ptP s (b+3)).2.1 - (b+3))
    ·rw [iP (.inr hlt)]
     split
     ·rfl
     ·rw [iP (.inl hlt)]
    ·rw [iN (by simp;omega)]
     by_cases h125:chr s (ptP s ((ptP s (b+3)).2.1+1)).2.1=125
     ·rw [iP h125,iN (by omega),iN (by omega)];rfl
     ·rw [iN h125,iP (by omega)]
  ·rw [iN h45,iN h45,iN h45]
   by_cases h125:chr s (ptP s (b+3)).2.1=125
   ·rw [iP h125,iN (by omega),iN (by omega)];rfl
   ·rw [iN h125,iP (by omega)]
theorem zla (c0 c1:Int):(((sgC c0 c1).1=13∨(sgC c0 c1).1=14∨(sgC c0 c1).1=15)->c0=94)/\((sgC c0 c1).1=21->c0=123/\c1=58):=by
 unfold sgC;by_cases h37:c0=37
 ·subst h37
  by_cases a101:c1=101 <;> by_cases a102:c1=102 <;> simp_all
 by_cases h94:c0=94
 ·subst h94
  by_cases a43:c1=43 <;> by_cases a45:c1=45 <;> simp_all
 by_cases h60:c0=60
 ·subst h60
  by_cases a45:c1=45 <;> simp_all
 by_cases h45:c0=45
 ·subst h45
  by_cases a62:c1=62 <;> simp_all
 by_cases h47:c0=47
 ·subst h47
  simp
 by_cases h38:c0=38
 ·subst h38
  simp
 by_cases h33:c0=33
 ·subst h33
  simp
 by_cases h63:c0=63
 ·subst h63
  simp
 by_cases h42:c0=42
 ·subst h42
  simp
 by_cases h43:c0=43
 ·subst h43
  simp
 by_cases h40:c0=40
 ·subst h40
  simp
 by_cases h41:c0=41
 ·subst h41
  simp
 by_cases h46:c0=46
 ·subst h46
  simp
 by_cases h123:c0=123
 ·subst h123
  by_cases a58:c1=58 <;> by_cases a124:c1=124 <;> by_cases a126:c1=126 <;> simp_all
 by_cases h58:c0=58
 ·subst h58
  by_cases a125:c1=125 <;> simp_all
 by_cases h124:c0=124
 ·subst h124
  by_cases a125:c1=125 <;> simp_all
 by_cases h126:c0=126
 ·subst h126
  by_cases a125:c1=125 <;> simp_all
 by_cases h125:c0=125
 ·subst h125
  simp
 simp [*]
def lgG (s:ByteArray) (b:Nat):Prop:=chr s b=123/\chr s (b+1)=58/\hdB (chr s (b+2))=true/\32<spN nmB s (b+2) - (b+2)/\chr s (spN nmB s (b+2))≠58
theorem zmN (s:ByteArray) (b:Nat) (h:chr s b=94):zbV s b=zd8 s b:=by
 have e:zax s b=if chr s (b+1)=43 then (14,[94,43]) else if chr s (b+1)=45 then (15,[94,45]) else (13,[94]):=by
  rw [zgj,h];unfold sgC;rw [iN (by decide),iP rfl]
 unfold zbV zd8;rw [e];dsimp only;by_cases h43:chr s (b+1)=43
 ·rw [iP h43];simp only [h43];rfl
 ·by_cases h45:chr s (b+1)=45
  ·rw [iN h43,iP h45];simp only [h45];rfl
  ·have ho:¬(chr s (b+1)=43∨chr s (b+1)=45):=by omega
   rw [iN h43,iN h45,iN h43,iN h45,iN ho];rfl
theorem zmO (s:ByteArray) (b:Nat) (h:chr s b=123) (h2:chr s (b+1)=58):(lgG s b->zbV s b=.inr (b+2,2)/\ze5 s b=.inl (nlT b (b+2)))/\(¬lgG s b->zbV s b=ze5 s b):=by
 have e:zax s b=(21,[123,58]):=by
  rw [zgj,h,h2];rfl
 have es:zbV s b=zc0 s b (b+2):=by
  unfold zbV;rw [e];rfl
 rw [es];unfold zc0 ze5 lgG;have e2:spN nmB s (b+2) - b - 2=spN nmB s (b+2) - (b+2):=by omega
 rw [e2];refine ⟨fun ⟨_,_,q3,q4,q5⟩=>?_,fun hn=>?_⟩
 ·have hA:¬(hdB (chr s (b+2))=true/\chr s (spN nmB s (b+2))=58):=fun q=>q5 q.2
  rw [iP q3,iP q4,iN hA];exact ⟨rfl,rfl⟩
 ·by_cases q1:hdB (chr s (b+2))=true
  ·rw [iP q1]
   by_cases q3:chr s (spN nmB s (b+2))=58
   ·have hA:hdB (chr s (b+2))=true/\chr s (spN nmB s (b+2))=58:=⟨q1,q3⟩
    rw [iP hA,iP q3];by_cases q2:32<spN nmB s (b+2) - (b+2)
    ·rw [iP q2,iP q2]
    ·rw [iN q2,iN q2];rfl
   ·have hA:¬(hdB (chr s (b+2))=true/\chr s (spN nmB s (b+2))=58):=fun q=>q3 q.2
    have q2:¬32<spN nmB s (b+2) - (b+2):=fun q=>hn ⟨h,h2,q1,q,q3⟩
    rw [iN hA,iN q2,iN q3];rfl
  ·have hA:¬(hdB (chr s (b+2))=true/\chr s (spN nmB s (b+2))=58):=fun q=>q1 q.1
   rw [iN q1,iN hA];rfl
theorem zmP (s:ByteArray) (b:Nat) (h:chr s b=37):zc4 s b=zdE s b:=by
 have e:zax s b=if chr s (b+1)=101 then (29,[37,101]) else if chr s (b+1)=102 then (30,[37,102]) else (0,[]):=by
  rw [zgj,h];unfold sgC;rw [iP rfl]
 have ep:pfx s b [37,117,123]=(chr s (b+1)==117&&chr s (b+2)==123):=by
  show (chr s b==37&&(chr s (b+1)==117&&(chr s (b+1+1)==123&&true)))=_
  rw [h,Bool.and_true];rfl
 unfold zc4 zdE;rw [ep];by_cases hu:chr s (b+1)=117/\chr s (b+2)=123
 ·rw [iP hu,hu.1,hu.2,iP (by decide)];exact zmM s b
 ·have hu2:¬(chr s (b+1)==117&&chr s (b+2)==123)=true:=by simpa using hu
  rw [iN hu,iN hu2,e];by_cases h1:chr s (b+1)=101
  ·rw [iP h1,iP h1,iP (by simp)]
   unfold zbV;rw [e,iP h1];rfl
  ·rw [iN h1,iN h1]
   by_cases h2:chr s (b+1)=102
   ·rw [iP h2,iP h2,iP (by simp)]
    unfold zbV;rw [e,iN h1,iP h2];rfl
   ·rw [iN h2,iN h2,iN (by simp)]
    by_cases hs:b+1<s.size
    ·have hp:0<=chr s (b+1):=by rw [zam hs];omega
     by_cases hc:(cls (chr s (b+1)).toNat).2=0
     ·rw [iP ⟨hs,hc⟩,iP ⟨hp,hc⟩];rfl
     ·rw [iN (fun q=>hc q.2),iN (fun q=>hc q.2)]
    ·have hp:¬0<=chr s (b+1):=by rw [zau hs];omega
     rw [iN (fun q=>hs q.1),iN (fun q=>hp q.1)]
theorem zc2 (s:ByteArray) (b:Nat):(lgG s b->zaS s b=.inr (b+2,2)/\zbE (sgR s) s b=.inl (nlT b (b+2)))/\(¬lgG s b->zaS s b=zbE (sgR s) s b):=by
 unfold zaS zbE;by_cases h1:hdB (chr s b)=true
 ·have hn:¬lgG s b:=fun q=>by rw [q.1] at h1;exact absurd h1 (by decide)
  refine ⟨fun q=>absurd q hn,fun _=>?_⟩;rw [iP h1,iP h1];rfl
 rw [iN h1,iN h1];by_cases h2:dgB (chr s b)=true
 ·have hn:¬lgG s b:=fun q=>by rw [q.1] at h2;exact absurd h2 (by decide)
  refine ⟨fun q=>absurd q hn,fun _=>?_⟩;rw [iP h2,iP h2];rfl
 rw [iN h2,iN h2];by_cases h3:chr s b=39∨chr s b=34
 ·have hn:¬lgG s b:=fun q=>by have:=q.1;omega
  refine ⟨fun q=>absurd q hn,fun _=>?_⟩;rw [iP h3,iP h3]
 rw [iN h3,iN h3];by_cases h4:chr s b=91
 ·have hn:¬lgG s b:=fun q=>by have:=q.1;omega
  refine ⟨fun q=>absurd q hn,fun _=>?_⟩;rw [iP h4,iP h4]
 rw [iN h4,iN h4];by_cases h5:chr s b=37
 ·have hn:¬lgG s b:=fun q=>by have:=q.1;omega
  refine ⟨fun q=>absurd q hn,fun _=>?_⟩;rw [iP h5,iP h5];exact zmP s b h5
 rw [iN h5,iN h5];by_cases h6:chr s b=94
 ·have hn:¬lgG s b:=fun q=>by have:=q.1;omega
  refine ⟨fun q=>absurd q hn,fun _=>?_⟩;rw [iP h6];exact zmN s b h6
 rw [iN h6];by_cases h7:chr s b=123/\chr s (b+1)=58
 ·rw [iP h7];exact zmO s b h7.1 h7.2
 ·have hn:¬lgG s b:=fun q=>h7 ⟨q.1,q.2.1⟩
  refine ⟨fun q=>absurd q hn,fun _=>?_⟩;rw [iN h7,sgR_C,sgRC_C _ _ h5 h6 h7];obtain ⟨k1,k2⟩:=zla (chr s b) (chr s (b+1));unfold zbV;rw [zgj];dsimp only;rw [iN (fun q=>h6 (k1 q)),iN (fun q=>h7 (k2 q))]
theorem lg_in {s:ByteArray} {b:Nat} (h:lgG s b):b+2<s.size:=by
 have h3:=h.2.2.1;by_cases q:b+2<s.size
 ·exact q
 ·rw [zau q] at h3;exact absurd h3 (by decide)
theorem zlb (s:ByteArray) (b:Nat) (t:Tk) (hb:b<s.size) (h:zbE (sgR s) s b=.inl t):∃e:Nat,t.en=e/\b<e/\e<=s.size:=by
 by_cases q:lgG s b
 ·have h1:=lg_in q
  rw [((zc2 s b).1 q).2] at h
  cases h
  exact ⟨b+2,rfl,by omega,by omega⟩
 ·rw [<-(zc2 s b).2 q] at h
  exact zg3 s b t hb h
theorem zpi (s:ByteArray) (b:Nat) (p:Nat×Int) (h:zbE (sgR s) s b=.inr p):p.2≠0:=by
 by_cases q:lgG s b
 ·rw [((zc2 s b).1 q).2] at h;cases h
 ·rw [<-(zc2 s b).2 q] at h;exact zg2 s b p h
theorem ziE (s:ByteArray):∀(f:Nat) (out:List Tk) (i:Nat),s.size<f+i->zbR (zaS s) s f out i=zbR (zbE (sgR s) s) s f out i:=by
 intro f
 induction f with
 | zero=>intro out i h;rfl
 | succ f ih =>
  intro out i h;rw [zbR,zbR];by_cases hi:i<s.size
  ·rw [iP hi,iP hi]
   by_cases q:lgG s i
   ·have h1:=lg_in q
    obtain ⟨e1,e2⟩:=(zc2 s i).1 q;rw [e1,e2];dsimp only;have hd:=q.2.2.1;have hg:zbC s (i+2)=i+2:=by
     rw [zdA,iP h1];have hr:65<=chr s (i+2):=by
      unfold hdB at hd;simp at hd
      omega
     rw [iN (by omega),iN (by omega)]
    obtain ⟨f,rfl⟩:∃g,f=g+1:=⟨f - 1,by omega⟩
    show _=zbR (zbE (sgR s) s) s (f+1) (out++[nlT i (i+2)]) (zbC s (i+2))
    rw [hg,zbR,iP h1];have ho:zbE (sgR s) s (i+2)=.inr (i+2,2):=by
     unfold zbE;rw [iP hd,iP (by have:=q.2.2.2.1;omega)]
    rw [ho]
   ·rw [(zc2 s i).2 q]
    cases ho:zbE (sgR s) s i with
    | inr p=>rfl
    | inl t =>
     obtain ⟨e,e1,e2,e3⟩:=zlb s i t hi ho;have hge:=zg5 s e e3;dsimp only;exact ih _ _ (by rw [e1,Int.toNat_natCast];omega)
  ·rw [iN hi,iN hi]
theorem zmQ (s:ByteArray):zbp (zaS s) s=zbp (zbE (sgR s) s) s:=by
 unfold zbp
 split
 ·rfl
 ·exact ziE s _ _ _ (by omega)
theorem zen (s:ByteArray) (hs:s.size<=140737488355000) (w:World):Calls Tryz.prog 17 #[.string s] w fun e w'=>LxV w w' (zbp (zaS s) s) e/\Below w.heap.size w w':=by
 rw [zmQ];exact lex_of (zbE (sgR s) s) s hs (fun b hb _ w=>one_of (sgR s) s b hs hb (fun w=>zmL s b hs hb w) w) (fun b t hb h=>zlb s b t hb h) (fun b q h=>zpi s b q h) w
end Go.Proofs.YtkihfkcmcdiajaaGreatDoor
namespace Go.Proofs.YtkihfkcmcdiajaaGreatDoor.N
open Go.RowKit
def PgV (w':World) (r:Sum (List (ByteArray×List Nd)) (Int×Int)) (e:Ending):Prop:=match r with
 | .inr p=>e=.returned (.tuple #[.agg #[.slice none 0 0],.agg #[.int .i64 p.1,.int .i64 p.2]])
 | .inl gs=>∃u,e=.returned (.tuple #[.agg #[u],.agg #[.int .i64 0,.int .i64 0]])/\GrR w' u gs
theorem zpj (s:ByteArray) (w:World) (hg:GW w) (r:Sum (List (ByteArray×List Nd)) (Int×Int)) (hr:psR s=r):Calls Tryz.prog 9 #[.string s] w fun e w'=>PgV w' r e/\Below w.heap.size w w':=by
 refine (zk5 s w hg).mono ?_;rintro e w' ⟨h1,h2⟩;refine ⟨?_,h2⟩;rw [hr] at h1
 cases r with
 | inr p=>exact h1
 | inl gs =>
  obtain ⟨u,ov,h3,h4,h5,h6⟩:=h1;refine ⟨u,h3,?_⟩;rw [<-h6];exact GrR.of h4 h5
theorem zgr {fn:Func} {R:Ending->World->Prop} {act:Act} {W:World} {j k:Nat} {u:Value} {p c:Int} (hF:fn.results=#[.cell 2 24,.cell 3 27]) (hd:act.defers=[]) (h2:act.tmps.getD 2 undef=.pointer (some ⟨j,0,none⟩)) (h3:act.tmps.getD 3 undef=.pointer (some ⟨k,0,none⟩)) (hG:GX W j u) (hT:FX W k p c) (hR:R (.returned (.tuple #[.agg #[u],.agg #[.int .i64 p,.int .i64 c]])) W):bodyPost Tryz.prog fn R .ret act W:=by
 have c0:=hT.c0;have c1:=hT.c1;have g0:=hG.cl;refine bodyPost_ret (v:=.tuple #[.agg #[u],.agg #[.int .i64 p,.int .i64 c]]) ?_ hd hR;simp only [Array.getD_eq_getD_getElem?] at h2 h3;simp [results,hF,go_sem,h2,h3,c0,c1,g0]
structure PB (w W:World):Prop where
 b:Below w.heap.size w W
 g:GX W w.heap.size (.slice none 0 0)
 f:FX W (w.heap.size+1) 0 0
theorem PB.later {w W W':World} (h:PB w W) (hb:Below W.heap.size W W'):PB w W':=⟨h.b.trans (hb.mono h.b.size),h.g.below hb,h.f.below hb⟩
theorem PB.new (w:World):PB w ((w.alloc (.cells #[.slice none 0 0] 24)).alloc fxZ) :=
 ⟨((bR _ _).alloc (nL _) _).alloc (by rw [sA];omega) _,(GX.mk (heap_alloc_new w _)).below (zaa _ _),⟨by have h:=heap_alloc_new (w.alloc (.cells #[.slice none 0 0] 24)) fxZ;(try unfold rB at h);rw [sA] at h;exact h⟩⟩
abbrev pbW (w W:World) (u:Value) (p c:Int):World:=((W.setCell ⟨w.heap.size,0,none⟩ u).setCell ⟨w.heap.size+1,0,none⟩ (.int .i64 p)).setCell ⟨w.heap.size+1,1,none⟩ (.int .i64 c)
theorem zlc {w W:World} {u:Value} {p c:Int} {j:Nat} (h1:j≠w.heap.size) (h2:j≠w.heap.size+1):(pbW w W u p c).heap[j]?=W.heap[j]? :=
 (bS _ _ _ _ h2).trans ((bS _ _ _ _ h2).trans (bS _ _ _ _ h1))
theorem PB.fin {w W:World} (h:PB w W) (u:Value) (p c:Int):GX (pbW w W u p c) w.heap.size u/\FX (pbW w W u p c) (w.heap.size+1) p c/\Below w.heap.size w (pbW w W u p c):=by
 have q1:GX (W.setCell ⟨w.heap.size,0,none⟩ u) w.heap.size u:=h.g.set u;have q2:FX (W.setCell ⟨w.heap.size,0,none⟩ u) (w.heap.size+1) 0 0:=⟨(bS _ _ _ _ (by show w.heap.size+1≠w.heap.size;omega)).trans h.f.heap⟩;refine ⟨q1.same ((bS _ _ _ _ (by show w.heap.size≠w.heap.size+1;omega)).trans (bS _ _ _ _ (by show w.heap.size≠w.heap.size+1;omega))),znm q2 p c,?_⟩;exact ((h.b.setCell (p:=⟨w.heap.size,0,none⟩) (nL _) _).setCell (p:=⟨w.heap.size+1,0,none⟩) (Nat.le_succ _) _).setCell (p:=⟨w.heap.size+1,1,none⟩) (Nat.le_succ _) _
theorem zld {W:World} {b:Nat} {p e:Int} (h:FX W b p e):FX W.drew b p e:=⟨h.heap⟩
theorem Rws.ge {E:PE} {z:Nat} {w0 W:World} {u pv:Value} {ov:List (Rl×Value)} (h:Rws E z w0 W u pv ov) {j:Nat} (hj:u.ownBlock=some j∨pv.ownBlock=some j∨∃x∈ov,x.2.ownBlock=some j):w0.heap.size<=j:=by
 rcases hj with q | q | ⟨x,hx,q⟩
 ·exact (h.o.lt j q).1
 ·exact (h.p.lt j q).1
 ·exact ((h.b.e x hx).lt j q).1
theorem zgs {E:PE} (hE:OkE E) {rs:List Rl} (h:rdN E=.inl rs):(∀r∈rs,∀n∈r.2.2,n.tx.size<=65536)/\rs.length<=65536/\∀r∈rs,r.2.2.length<=2000000000000:=by
 refine ⟨zkY hE h,?_⟩
 cases hr:ruB E 0 with
 | true =>
  unfold rdN at h;rw [iP hr] at h;have:=znh hE _ _ _ _ (Nat.zero_le _) (nL _) (fun r hr=>by cases hr) h;exact ⟨Nat.le_trans this.1 hE.len,this.2⟩
 | false =>
  rw [zhJ (by rw [hr];decide)] at h;refine ⟨?_,fun r hr=>(zo8 hE h r hr).2⟩;unfold alN at h
  cases hx:exN E 0 with
  | inr q=>rw [hx] at h;cases h
  | inl p =>
   rw [hx] at h;dsimp only at h
   split at h
   ·cases h
   ·cases h;simp
theorem zhk (s:ByteArray) (hl:65536<s.size) (hs:s.size<=140737488355000) (w:World):Calls Tryz.prog 10 #[.string s] w (rB w (.tuple #[.agg #[.slice none 0 0],.agg #[.int .i64 0,.int .i64 2]])):=by
 have HP:=hO (PB.new w);obtain ⟨w1,hw1⟩:∃x,(w.alloc (.cells #[.slice none 0 0] 24)).alloc fxZ=x:=⟨_,rfl⟩;rw [hw1] at HP;have HE1:=hO hw1;have hs1:w1.heap.size=w.heap.size+2:=by rw [<-hw1,sA,sA]
 have z1:(65536:Int)<(s.size:Int):=by omega
 clear hw1 hl hs hs1;have a0:=HP.g.cl;have a1:=HP.g.fz;have b0:=HP.f.c0;have b1:=HP.f.c1;have b2:=HP.f.f0;have b3:=HP.f.f1;go_enter Tryz.func10,Tryz.ntmps10;go_wp2_with (rw [HE1.out])
 have hF:=HP.fin (.slice none 0 0) 0 2;refine zgr rfl rfl rfl rfl hF.1 hF.2.1 ?_;exact ⟨rfl,hF.2.2⟩
theorem ziF (s:ByteArray) (hl:¬65536<s.size) (w:World) (q:Nat×Int) (hq:zbp (zaS s) s=.inr q):Calls Tryz.prog 10 #[.string s] w (rB w (.tuple #[.agg #[.slice none 0 0],.agg #[.int .i64 q.1,.int .i64 q.2]])):=by
 have HP:=hO (PB.new w);obtain ⟨w1,hw1⟩:∃x,(w.alloc (.cells #[.slice none 0 0] 24)).alloc fxZ=x:=⟨_,rfl⟩;rw [hw1] at HP;have HE1:=hO hw1;have hs1:w1.heap.size=w.heap.size+2:=by rw [<-hw1,sA,sA]
 have HX:Hid (∀W,Cl 17 #[.string s] W (rB W (.tuple #[.slice none 0 0,.int .i64 q.1,.int .i64 q.2]))):=fun W=>by
  have:=zen s (by omega) W;rw [hq] at this;exact this
 have z1:¬(65536:Int)<(s.size:Int):=by omega
 have t1:(q.2 != 0)=true:=by simpa using (zg7 hq).2
 obtain ⟨q1,q2⟩:=q;dsimp only at *;clear hw1 hl hs1 hq;go_enter Tryz.func10,Tryz.ntmps10;go_wp2_with (rw [HE1.out])
 refine (HX _).mono ?_;rintro e w2 ⟨rfl,hb⟩;have HP2:=hO (HP.later hb);clear hb HX HP HE1;have a0:=HP2.g.cl;have a1:=HP2.g.fz;have b0:=HP2.f.c0;have b1:=HP2.f.c1;have b2:=HP2.f.f0;have b3:=HP2.f.f1;go_wp2_with fail;have hF:=HP2.fin (.slice none 0 0) q1 q2;refine zgr rfl rfl rfl rfl hF.1 hF.2.1 ?_;exact ⟨rfl,hF.2.2⟩
theorem ziG (s:ByteArray) (h65:¬65536<s.size) (w:World) (l:List Tk) (hl:zbp (zaS s) s=.inl l) (q:Nat×Int) (hq:rdN (mkE l)=.inr q):Calls Tryz.prog 10 #[.string s] w (rB w (.tuple #[.agg #[.slice none 0 0],.agg #[.int .i64 (plA (mkE l) s.size q.1),.int .i64 q.2]])):=by
 have HP:=hO (PB.new w);obtain ⟨w1,hw1⟩:∃x,(w.alloc (.cells #[.slice none 0 0] 24)).alloc fxZ=x:=⟨_,rfl⟩;rw [hw1] at HP;have HE1:=hO hw1;have hs1:w1.heap.size=w.heap.size+2:=by rw [<-hw1,sA,sA]
 have hE:=zeM hl;have HX:Hid (∀W,Cl 17 #[.string s] W fun e w'=>(∃v,e=.returned (.tuple #[v,.int .i64 0,.int .i64 0])/\w'.ownsRow W.heap.size 79 9 v l.length (tkc l))/\Below W.heap.size W w'):=fun W=>by
  have:=zen s (by omega) W;rw [hl] at this;exact this
 have HRd:Hid (∀W2 v,W2.ownsRow w1.heap.size 79 9 v l.length (tkc l)->Below w1.heap.size w1 W2->Cl 27 #[rdV v 0 s.size 0 (.slice none 0 0) 0 0] W2 fun e W'=>RdD (mkE l) s.size w1 v (rdN (mkE l)) e W'):=fun W2 v ho hb=>by
  obtain ⟨A,c,hv⟩:=zag ho;subst hv;exact zeQ hE ⟨hb,ho,World.ownsRow_nil _ _ _ _,Nat.zero_le _,Nat.zero_le _⟩
 have z1:¬(65536:Int)<(s.size:Int):=by omega
 have hq2:q.2≠0:=by have:=(znB hq).2;omega
 rw [hq] at HRd;obtain ⟨p1,hp1⟩:∃x,plA (mkE l) s.size q.1=x:=⟨_,rfl⟩;obtain ⟨p2,hp2⟩:∃x,q.2=x:=⟨_,rfl⟩;rw [hp1,hp2];rw [hp2] at hq2;have HPq:Hid (plA (mkE l) s.size q.1=p1/\q.2=p2):=⟨hp1,hp2⟩;have HOk:Hid (∀(At:Option Addr) (nt ct:Nat) (i z d:Int) (A:Option Addr) (n c:Nat) (p:Int) W,Cl 28 #[rdV (.slice At nt ct) i z d (.slice A n c) p p2] W (rB W (.bool false))):=fun At nt ct i z d A n c p W=>by
  have:=zaO At nt ct i z d A n c p p2 W;rw [show (p2==0)=false from by simpa using hq2] at this;exact this
 clear hw1 hs1 hE hl hq h65 hp1 hp2 hq2;go_enter Tryz.func10,Tryz.ntmps10;go_wp2_with (rw [HE1.out])
 refine (HX _).mono ?_;rintro e w2 ⟨⟨v,rfl,ho⟩,hb⟩;obtain ⟨A,ct,hv⟩:=zag ho;subst hv;have HP2:=hO (HP.later hb);have HO2:=hO ho;have HB2:Hid (Below w1.heap.size w1 w2):=hb;clear ho hb HX HE1;go_wp2_with fail;refine (HRd _ _ HO2.out HB2.out).mono ?_;intro e w3 hR;obtain ⟨i3,d3,A3,l3,c3,A4,l4,c4,pv,rfl,hb3⟩:=hR;rw [HPq.1,HPq.2];have HP3:Hid (PB w w3):=⟨HP.b.trans (hb3.mono HP.b.size),HP.g.below hb3,HP.f.below hb3⟩;clear hb3 HRd HO2 HB2 HP2 HP HPq;obtain ⟨w4,hw4⟩:∃x,(w3.alloc (.cells #[.slice A l.length ct,.int .i64 i3,.int .i64 s.size,.int .i64 d3,.slice A3 l3 c3,.int .i64 p1,.int .i64 p2] 65)).alloc (.cells #[.slice A4 l4 c4] 24)=x:=⟨_,rfl⟩;have hb4:Below w3.heap.size w3 w4:=by rw [<-hw4];exact ((bR _ _).alloc (nL _) _).alloc (by rw [sA];omega) _
 have HD4:Hid (DB w4 w3.heap.size (.slice A l.length ct) (.int .i64 i3) (.int .i64 s.size) (.int .i64 d3) (.slice A3 l3 c3) (.int .i64 p1) (.int .i64 p2)):=by rw [<-hw4];exact (DB.mk (heap_alloc_new w3 _)).below (zaa _ _)
 have HG4:Hid (GX w4 (w3.heap.size+1) (.slice A4 l4 c4)):=by rw [<-hw4];exact ⟨by have h:=heap_alloc_new (w3.alloc (.cells #[.slice A l.length ct,.int .i64 i3,.int .i64 s.size,.int .i64 d3,.slice A3 l3 c3,.int .i64 p1,.int .i64 p2] 65)) (.cells #[.slice A4 l4 c4] 24);(try unfold rB at h);rw [sA] at h;exact h⟩
 have HE4:=hO hw4;have HP4:=hO (HP3.later hb4);obtain ⟨k0,k1,k2,k3,k4,k5,k6⟩:=HD4.cl;clear hw4 hb4 HP3;go_wp2_with (rw [HE4.out])
 refine (HOk _ _ _ _ _ _ _ _ _ _ _).mono ?_;rintro e w5 ⟨rfl,hb⟩;have HD5:=hO (HD4.below hb);have HP5:=hO (HP4.later hb);clear hb HOk HD4 HP4 HG4 HE4 k0 k1 k2 k3 k4 k5 k6;obtain ⟨k0,k1,k2,k3,k4,k5,k6⟩:=HD5.cl;have a0:=HP5.g.cl;have a1:=HP5.g.fz;have b0:=HP5.f.c0;have b1:=HP5.f.c1;have b2:=HP5.f.f0;have b3:=HP5.f.f1;go_wp2_with fail;go_region
 all_goals
  go_wp2_with fail;have hF:=HP5.fin (.slice none 0 0) p1 p2;refine zgr rfl rfl rfl rfl hF.1.drew (zld hF.2.1) ?_;exact ⟨rfl,hF.2.2.drew⟩
theorem zle (s:ByteArray) (h65:¬65536<s.size) (w:World) (l:List Tk) (hl:zbp (zaS s) s=.inl l) (rs:List Rl) (hq:rdN (mkE l)=.inl rs) (p:Int×Int) (hsz:szR (mkE l) s.size rs=some p):Calls Tryz.prog 10 #[.string s] w (rB w (.tuple #[.agg #[.slice none 0 0],.agg #[.int .i64 p.1,.int .i64 p.2]])):=by
 have HP:=hO (PB.new w);obtain ⟨w1,hw1⟩:∃x,(w.alloc (.cells #[.slice none 0 0] 24)).alloc fxZ=x:=⟨_,rfl⟩;rw [hw1] at HP;have HE1:=hO hw1;have hs1:w1.heap.size=w.heap.size+2:=by rw [<-hw1,sA,sA]
 have hE:=zeM hl;have HX:Hid (∀W,Cl 17 #[.string s] W fun e w'=>(∃v,e=.returned (.tuple #[v,.int .i64 0,.int .i64 0])/\w'.ownsRow W.heap.size 79 9 v l.length (tkc l))/\Below W.heap.size W w'):=fun W=>by
  have:=zen s (by omega) W;rw [hl] at this;exact this
 have HRd:Hid (∀W2 v,W2.ownsRow w1.heap.size 79 9 v l.length (tkc l)->Below w1.heap.size w1 W2->Cl 27 #[rdV v 0 s.size 0 (.slice none 0 0) 0 0] W2 fun e W'=>RdD (mkE l) s.size w1 v (rdN (mkE l)) e W'):=fun W2 v ho hb=>by
  obtain ⟨A,c,hv⟩:=zag ho;subst hv;exact zeQ hE ⟨hb,ho,World.ownsRow_nil _ _ _ _,Nat.zero_le _,Nat.zero_le _⟩
 have z1:¬(65536:Int)<(s.size:Int):=by omega
 have hbd:=zgs hE hq;rw [hq] at HRd;have HSd:Hid (∀W u pv ov,Rws (mkE l) s.size w1 W u pv ov->ov.map (·.1)=rs->Cl 29 #[.agg #[u],pv] W (rB W (.agg #[.int .i64 p.1,.int .i64 p.2]))):=fun W u pv ov h1 h2=>by
  have:=znn h1 (fun x hx=>hbd.1 _ (by rw [<-h2];exact List.mem_map.2 ⟨x,hx,rfl⟩)) (fun x hx=>hbd.2.2 _ (by rw [<-h2];exact List.mem_map.2 ⟨x,hx,rfl⟩)) (by rw [<-h2,List.length_map] at hbd;exact hbd.2.1);rw [h2,hsz] at this;exact this
 have t1:(p.2 != 0)=true:=by simpa using (zmJ hsz).1
 obtain ⟨p1,p2⟩:=p;dsimp only at *;clear hs1;have HOk:Hid (∀(At:Option Addr) (nt ct:Nat) (i z d:Int) (A:Option Addr) (n c:Nat) (p:Int) W,Cl 28 #[rdV (.slice At nt ct) i z d (.slice A n c) p 0] W (rB W (.bool true))):=fun At nt ct i z d A n c p W=>zaO At nt ct i z d A n c p 0 W
 clear hw1 hE hl hq h65 hbd hsz;go_enter Tryz.func10,Tryz.ntmps10;go_wp2_with (rw [HE1.out])
 refine (HX _).mono ?_;rintro e w2 ⟨⟨v,rfl,ho⟩,hb⟩;obtain ⟨A,ct,hv⟩:=zag ho;subst hv;have HP2:=hO (HP.later hb);have HO2:=hO ho;have HB2:Hid (Below w1.heap.size w1 w2):=hb;clear ho hb HX HE1;go_wp2_with fail;refine (HRd _ _ HO2.out HB2.out).mono ?_;intro e w3 hR;obtain ⟨i3,d3,A3,l3,c3,u,pv,ov,rfl,hrs,ho,hbds,hpv,hb3⟩:=hR;obtain ⟨A4,c4,hu⟩:=zag ho;obtain ⟨A5,c5,hp5⟩:=zag hpv;subst hu hp5;obtain ⟨l4,hl4⟩:∃x,x=ov.length:=⟨_,rfl⟩;have HR3:Hid (Rws (mkE l) s.size w1 w3 (.slice A4 l4 c4) (.slice A5 l4 c5) ov):=by rw [hl4];exact ⟨ho,hpv,hbds⟩
 have HP3:Hid (PB w w3):=⟨HP.b.trans (hb3.mono HP.b.size),HP.g.below hb3,HP.f.below hb3⟩;have HRs:=hO hrs;rw [<-hl4];clear hb3 HRd HO2 HB2 HP2 HP ho hbds hpv hrs hl4;obtain ⟨w4,hw4⟩:∃x,(w3.alloc (.cells #[.slice A l.length ct,.int .i64 i3,.int .i64 s.size,.int .i64 d3,.slice A3 l3 c3,.int .i64 0,.int .i64 0] 65)).alloc (.cells #[.slice A4 l4 c4] 24)=x:=⟨_,rfl⟩;have hb4:Below w3.heap.size w3 w4:=by rw [<-hw4];exact ((bR _ _).alloc (nL _) _).alloc (by rw [sA];omega) _
 have HD4:Hid (DB w4 w3.heap.size (.slice A l.length ct) (.int .i64 i3) (.int .i64 s.size) (.int .i64 d3) (.slice A3 l3 c3) (.int .i64 0) (.int .i64 0)):=by rw [<-hw4];exact (DB.mk (heap_alloc_new w3 _)).below (zaa _ _)
 have HG4:Hid (GX w4 (w3.heap.size+1) (.slice A4 l4 c4)):=by rw [<-hw4];exact ⟨by have h:=heap_alloc_new (w3.alloc (.cells #[.slice A l.length ct,.int .i64 i3,.int .i64 s.size,.int .i64 d3,.slice A3 l3 c3,.int .i64 0,.int .i64 0] 65)) (.cells #[.slice A4 l4 c4] 24);(try unfold rB at h);rw [sA] at h;exact h⟩
 have HE4:=hO hw4;have HP4:=hO (HP3.later hb4);have HR4:=hO (HR3.later hb4);obtain ⟨k0,k1,k2,k3,k4,k5,k6⟩:=HD4.cl;clear hw4 hb4 HP3 HR3;go_wp2_with (rw [HE4.out])
 refine (HOk _ _ _ _ _ _ _ _ _ _ _).mono ?_;rintro e w5 ⟨rfl,hb⟩;have HG5:=hO (HG4.below hb);have HP5:=hO (HP4.later hb);have HR5:=hO (HR4.later hb);clear hb HOk HD4 HP4 HR4 HG4 HE4 k0 k1 k2 k3 k4 k5 k6;have g5:=HG5.cl;go_wp2_with fail;refine (HSd _ _ _ _ HR5.out HRs.out).mono ?_;rintro e w6 ⟨rfl,hb⟩;obtain ⟨w7,hw7⟩:∃x,w6.alloc (.cells #[.int .i64 p1,.int .i64 p2] 27)=x:=⟨_,rfl⟩;have hb7:Below w6.heap.size w6 w7:=by rw [<-hw7];exact zaa _ _
 have HP7:=hO ((HP5.later hb).later hb7);have HF7:Hid (FX w7 w6.heap.size p1 p2):=by rw [<-hw7];exact ⟨heap_alloc_new w6 _⟩
 have HE7:=hO hw7;have hlt6:=(HP5.later hb).f.lt;have n1:¬w6.heap.size=w.heap.size:=by omega
 have n2:¬w.heap.size=w6.heap.size:=by omega
 have n3:¬w6.heap.size=w.heap.size+1:=by omega
 have n4:¬w.heap.size+1=w6.heap.size:=by omega
 clear hb hb7 hw7 HG5 HP5 HR5 g5 HSd hlt6;have x0:=HF7.c0;have x1:=HF7.c1;have a0:=HP7.g.cl;have a1:=HP7.g.fz;have b0:=HP7.f.c0;have b1:=HP7.f.c1;have b2:=HP7.f.f0;have b3:=HP7.f.f1;go_wp2_with (rw [HE7.out])
 go_region
 all_goals
  go_wp2_with fail;have hF:=HP7.fin (.slice none 0 0) p1 p2;refine zgr rfl rfl rfl rfl hF.1.drew (zld hF.2.1) ?_;exact ⟨rfl,hF.2.2.drew⟩
theorem zlf (s:ByteArray) (h65:¬65536<s.size) (w:World) (l:List Tk) (hl:zbp (zaS s) s=.inl l) (rs:List Rl) (hq:rdN (mkE l)=.inl rs) (hsz:szR (mkE l) s.size rs=none):Calls Tryz.prog 10 #[.string s] w fun e w'=>PgV w' (.inl (rs.map fun r=>r.2)) e/\Below w.heap.size w w':=by
 have HP:=hO (PB.new w);obtain ⟨w1,hw1⟩:∃x,(w.alloc (.cells #[.slice none 0 0] 24)).alloc fxZ=x:=⟨_,rfl⟩;rw [hw1] at HP;have HE1:=hO hw1;have hs1:w1.heap.size=w.heap.size+2:=by rw [<-hw1,sA,sA]
 have hE:=zeM hl;have HX:Hid (∀W,Cl 17 #[.string s] W fun e w'=>(∃v,e=.returned (.tuple #[v,.int .i64 0,.int .i64 0])/\w'.ownsRow W.heap.size 79 9 v l.length (tkc l))/\Below W.heap.size W w'):=fun W=>by
  have:=zen s (by omega) W;rw [hl] at this;exact this
 have HRd:Hid (∀W2 v,W2.ownsRow w1.heap.size 79 9 v l.length (tkc l)->Below w1.heap.size w1 W2->Cl 27 #[rdV v 0 s.size 0 (.slice none 0 0) 0 0] W2 fun e W'=>RdD (mkE l) s.size w1 v (rdN (mkE l)) e W'):=fun W2 v ho hb=>by
  obtain ⟨A,c,hv⟩:=zag ho;subst hv;exact zeQ hE ⟨hb,ho,World.ownsRow_nil _ _ _ _,Nat.zero_le _,Nat.zero_le _⟩
 have z1:¬(65536:Int)<(s.size:Int):=by omega
 have hbd:=zgs hE hq;rw [hq] at HRd;have HSd:Hid (∀W u pv ov,Rws (mkE l) s.size w1 W u pv ov->ov.map (·.1)=rs->Cl 29 #[.agg #[u],pv] W (rB W (.agg #[.int .i64 0,.int .i64 0]))):=fun W u pv ov h1 h2=>by
  have:=znn h1 (fun x hx=>hbd.1 _ (by rw [<-h2];exact List.mem_map.2 ⟨x,hx,rfl⟩)) (fun x hx=>hbd.2.2 _ (by rw [<-h2];exact List.mem_map.2 ⟨x,hx,rfl⟩)) (by rw [<-h2,List.length_map] at hbd;exact hbd.2.1);rw [h2,hsz] at this;exact this
 have HOk:Hid (∀(At:Option Addr) (nt ct:Nat) (i z d:Int) (A:Option Addr) (n c:Nat) (p:Int) W,Cl 28 #[rdV (.slice At nt ct) i z d (.slice A n c) p 0] W (rB W (.bool true))):=fun At nt ct i z d A n c p W=>zaO At nt ct i z d A n c p 0 W
 clear hw1 hE hl hq h65 hbd hsz;go_enter Tryz.func10,Tryz.ntmps10;go_wp2_with (rw [HE1.out])
 refine (HX _).mono ?_;rintro e w2 ⟨⟨v,rfl,ho⟩,hb⟩;obtain ⟨A,ct,hv⟩:=zag ho;subst hv;have HP2:=hO (HP.later hb);have HO2:=hO ho;have HB2:Hid (Below w1.heap.size w1 w2):=hb;clear ho hb HX HE1;go_wp2_with fail;refine (HRd _ _ HO2.out HB2.out).mono ?_;intro e w3 hR;obtain ⟨i3,d3,A3,l3,c3,u,pv,ov,rfl,hrs,ho,hbds,hpv,hb3⟩:=hR;obtain ⟨A4,c4,hu⟩:=zag ho;obtain ⟨A5,c5,hp5⟩:=zag hpv;subst hu hp5;obtain ⟨l4,hl4⟩:∃x,x=ov.length:=⟨_,rfl⟩;have HR3:Hid (Rws (mkE l) s.size w1 w3 (.slice A4 l4 c4) (.slice A5 l4 c5) ov):=by rw [hl4];exact ⟨ho,hpv,hbds⟩
 have HP3:Hid (PB w w3):=⟨HP.b.trans (hb3.mono HP.b.size),HP.g.below hb3,HP.f.below hb3⟩;have HRs:=hO hrs;rw [<-hl4];clear hb3 HRd HO2 HB2 HP2 HP ho hbds hpv hrs hl4;obtain ⟨w4,hw4⟩:∃x,(w3.alloc (.cells #[.slice A l.length ct,.int .i64 i3,.int .i64 s.size,.int .i64 d3,.slice A3 l3 c3,.int .i64 0,.int .i64 0] 65)).alloc (.cells #[.slice A4 l4 c4] 24)=x:=⟨_,rfl⟩;have hb4:Below w3.heap.size w3 w4:=by rw [<-hw4];exact ((bR _ _).alloc (nL _) _).alloc (by rw [sA];omega) _
 have HD4:Hid (DB w4 w3.heap.size (.slice A l.length ct) (.int .i64 i3) (.int .i64 s.size) (.int .i64 d3) (.slice A3 l3 c3) (.int .i64 0) (.int .i64 0)):=by rw [<-hw4];exact (DB.mk (heap_alloc_new w3 _)).below (zaa _ _)
 have HG4:Hid (GX w4 (w3.heap.size+1) (.slice A4 l4 c4)):=by rw [<-hw4];exact ⟨by have h:=heap_alloc_new (w3.alloc (.cells #[.slice A l.length ct,.int .i64 i3,.int .i64 s.size,.int .i64 d3,.slice A3 l3 c3,.int .i64 0,.int .i64 0] 65)) (.cells #[.slice A4 l4 c4] 24);(try unfold rB at h);rw [sA] at h;exact h⟩
 have HE4:=hO hw4;have HP4:=hO (HP3.later hb4);have HR4:=hO (HR3.later hb4);obtain ⟨k0,k1,k2,k3,k4,k5,k6⟩:=HD4.cl;clear hw4 hb4 HP3 HR3;go_wp2_with (rw [HE4.out])
 refine (HOk _ _ _ _ _ _ _ _ _ _ _).mono ?_;rintro e w5 ⟨rfl,hb⟩;have HG5:=hO (HG4.below hb);have HP5:=hO (HP4.later hb);have HR5:=hO (HR4.later hb);clear hb HOk HD4 HP4 HR4 HG4 HE4 k0 k1 k2 k3 k4 k5 k6;have g5:=HG5.cl;go_wp2_with fail;refine (HSd _ _ _ _ HR5.out HRs.out).mono ?_;rintro e w6 ⟨rfl,hb⟩;have HP6:=hO (HP5.later hb);have HR6:=hO (HR5.later hb);have HG6:=hO (HG5.below hb);clear hb HG5 HP5 HR5 g5 HSd;obtain ⟨w7,hw7⟩:∃x,w6.alloc (.cells #[.int .i64 0,.int .i64 0] 27)=x:=⟨_,rfl⟩;have hb7:Below w6.heap.size w6 w7:=by rw [<-hw7];exact zaa _ _
 have HP7:=hO (HP6.later hb7);have HR7:=hO (HR6.later hb7);have HG7:=hO (HG6.below hb7);have HF7:Hid (FX w7 w6.heap.size 0 0):=by rw [<-hw7];exact ⟨heap_alloc_new w6 _⟩
 have hlt6:w3.heap.size+1<w6.heap.size:=HG6.lt;have g6:=HG6.cl;have HW7:Hid (w7=w6.alloc (.cells #[.int .i64 0,.int .i64 0] 27)):=hw7.symm;clear hb7 hw7;have x0:=HF7.c0;have x1:=HF7.c1;have g7:=HG7.cl;have a0:=HP7.g.cl;have a1:=HP7.g.fz;have b0:=HP7.f.c0;have b1:=HP7.f.c1;have b2:=HP7.f.f0;have b3:=HP7.f.f1;rw [HW7.out] at x0 x1 g7 a0 a1 b0 b1 b2 b3;go_wp2_with fail;have hF:=HP7.fin (.slice A4 l4 c4) 0 0;have hRF:Rws (mkE l) s.size w1 (pbW w w7 (.slice A4 l4 c4) 0 0) (.slice A4 l4 c4) (.slice A5 l4 c5) ov:=HR7.same fun j hj=>by
  have:=HR7.ge hj;rw [hs1] at this;exact zlc (by omega) (by omega)
 rw [HW7.out] at hF hRF;refine zgr rfl rfl rfl rfl hF.1 hF.2.1 ?_;exact ⟨⟨_,rfl,by rw [<-HRs.out,List.map_map];exact GrR.of (w:=w1) (by have h9:=hRF.o;obtain ⟨A9,c9,e9⟩:=zag h9;exact h9) hRF.b⟩,hF.2.2⟩
theorem ziH (s:ByteArray) (hs:s.size<=140737488355000) (w:World):Calls Tryz.prog 10 #[.string s] w fun e w'=>PgV w' (psR s) e/\Below w.heap.size w w':=by
 by_cases h65:65536<s.size
 ·have:psR s=.inr (0,2):=by unfold psR zbp;rw [iP h65];rfl
  rw [this];exact zhk s h65 hs w
 ·unfold psR
  cases hl:zbp (zaS s) s with
  | inr q=>exact ziF s h65 w q hl
  | inl l =>
   dsimp only;unfold fin
   cases hr:rdN (mkE l) with
   | inr q=>exact ziG s h65 w l hl q hr
   | inl rs =>
    dsimp only
    cases hz:szR (mkE l) s.size rs with
    | some p=>exact zle s h65 w l hl rs hr p hz
    | none=>exact zlf s h65 w l hl rs hr hz
def gsR (r:Sum (List (ByteArray×List Nd)) (Int×Int)):List (ByteArray×List Nd):=match r with
 | .inl gs=>gs
 | .inr _=>[]
def ptR (r:Sum (List (ByteArray×List Nd)) (Int×Int)):Int×Int:=match r with
 | .inl _=>(0,0)
 | .inr p=>p
theorem PgV.u {w':World} {r:Sum (List (ByteArray×List Nd)) (Int×Int)} {e:Ending} (h:PgV w' r e):∃A c,e=.returned (.tuple #[.agg #[.slice A (gsR r).length c],.agg #[.int .i64 (ptR r).1,.int .i64 (ptR r).2]])/\GrR w' (.slice A (gsR r).length c) (gsR r):=by
 cases r with
 | inr p=>exact ⟨none,0,h,GrR.nil w'⟩
 | inl gs =>
  obtain ⟨u,h1,h2⟩:=h;obtain ⟨A,c,h3,h4⟩:=id h2;subst h3;exact ⟨A,c,h1,h2⟩
theorem zlg (s:ByteArray) (hs2:s.size<=140737488355000) (w:World) (hg:GW w):Calls Tryz.prog 3 #[.string s] w (rB w (.bool true)):=by
 have HP:Hid (∀W,GW W->Cl 9 #[.string s] W fun e w'=>(∃A c,e=.returned (.tuple #[.agg #[.slice A (gsR (psR s)).length c],.agg #[.int .i64 (ptR (psR s)).1,.int .i64 (ptR (psR s)).2]])/\GrR w' (.slice A (gsR (psR s)).length c) (gsR (psR s)))/\Below W.heap.size W w'):=fun W hW=>(zpj s W hW _ rfl).mono fun _ _ h=>⟨h.1.u,h.2⟩
 have HQ:Hid (∀W,Cl 10 #[.string s] W fun e w'=>(∃A c,e=.returned (.tuple #[.agg #[.slice A (gsR (psR s)).length c],.agg #[.int .i64 (ptR (psR s)).1,.int .i64 (ptR (psR s)).2]])/\GrR w' (.slice A (gsR (psR s)).length c) (gsR (psR s)))/\Below W.heap.size W w'):=fun W=>(ziH s hs2 W).mono fun _ _ h=>⟨h.1.u,h.2⟩
 have HL:Hid (∀W,GW W->Cl 11 #[] W (rB W (.bool true))):=fun W h=>zk8 W h
 have HS:Hid (∀W u1 u2,GrR W u1 (gsR (psR s))->GrR W u2 (gsR (psR s))->Cl 12 #[.agg #[u1],.agg #[u2]] W (rB W (.bool true))):=fun W u1 u2 h3 h4=>by
  cases hr:psR s with
  | inr p=>rw [hr] at h3 h4;exact zgq (fun g hg=>by cases hg) (Nat.zero_le _) h3 h4
  | inl gs=>rw [hr] at h3 h4;exact zgq (fun g hg=>((znk hr).2.2.1 g hg).2.1) (znk hr).2.1 h3 h4
 have HG:Hid (GW w):=hg;have hfe:=zni;generalize gsR (psR s)=gs at *;generalize (ptR (psR s)).1=p1 at *;generalize (ptR (psR s)).2=p2 at *;clear hg hs2;go_enter Tryz.func3,Tryz.ntmps3;go_wp2_with fail;refine (HP _ HG.out).mono ?_;rintro e w3 ⟨⟨A3,c3,rfl,hr⟩,hb⟩;obtain ⟨w4,hw4⟩:∃x,(w3.alloc (.cells #[.slice A3 gs.length c3] 24)).alloc (.cells #[.int .i64 p1,.int .i64 p2] 27)=x:=⟨_,rfl⟩;have HB4:=(show Hid (Below w.heap.size w w4/\GX w4 w3.heap.size (.slice A3 gs.length c3)/\FX w4 (w3.heap.size+1) p1 p2/\GrR w4 (.slice A3 gs.length c3) gs) from by
  rw [<-hw4];exact ⟨(hb.alloc hb.size _).alloc (by rw [sA];have:=hb.size;omega) _,(GX.mk (heap_alloc_new w3 _)).below (zaa _ _),⟨by have h:=heap_alloc_new (w3.alloc (.cells #[.slice A3 gs.length c3] 24)) (.cells #[.int .i64 p1,.int .i64 p2] 27);(try unfold rB at h);rw [sA] at h;exact h⟩,(hr.later (zaa _ _)).later (zaa _ _)⟩)
 have HE4:=hO hw4;clear hb HP hr hw4;go_wp2_with fail;rw [HE4.out];generalize w3.heap.size=k3 at *;refine (HQ _).mono ?_;rintro e w5 ⟨⟨A5,c5,rfl,hr⟩,hb⟩;obtain ⟨w6,hw6⟩:∃x,(w5.alloc (.cells #[.slice A5 gs.length c5] 24)).alloc (.cells #[.int .i64 p1,.int .i64 p2] 27)=x:=⟨_,rfl⟩;have HB6:=(show Hid (Below w.heap.size w w6/\GX w6 k3 (.slice A3 gs.length c3)/\FX w6 (k3+1) p1 p2/\GrR w6 (.slice A3 gs.length c3) gs/\GX w6 w5.heap.size (.slice A5 gs.length c5)/\FX w6 (w5.heap.size+1) p1 p2/\GrR w6 (.slice A5 gs.length c5) gs) from by
  have b1:Below w4.heap.size w4 w6:=by rw [<-hw6];exact (hb.alloc hb.size _).alloc (by rw [sA];have:=hb.size;omega) _
  refine ⟨HB4.1.trans (b1.mono HB4.1.size),HB4.2.1.below b1,HB4.2.2.1.below b1,HB4.2.2.2.later b1,?_⟩;rw [<-hw6];exact ⟨(GX.mk (heap_alloc_new w5 _)).below (zaa _ _),⟨by have h:=heap_alloc_new (w5.alloc (.cells #[.slice A5 gs.length c5] 24)) (.cells #[.int .i64 p1,.int .i64 p2] 27);(try unfold rB at h);rw [sA] at h;exact h⟩,(hr.later (zaa _ _)).later (zaa _ _)⟩)
 have HE6:=hO hw6;clear hb HQ hr hw6 HB4 HE4;go_wp2_with fail;rw [HE6.out];generalize w5.heap.size=k5 at *;refine (HL _ (HG.later HB6.1)).mono ?_;rintro e w7 ⟨rfl,hb⟩;have HB7:Hid (Below w.heap.size w w7/\GX w7 k3 (.slice A3 gs.length c3)/\FX w7 (k3+1) p1 p2/\GrR w7 (.slice A3 gs.length c3) gs/\GX w7 k5 (.slice A5 gs.length c5)/\FX w7 (k5+1) p1 p2/\GrR w7 (.slice A5 gs.length c5) gs):=⟨HB6.1.trans (hb.mono HB6.1.size),HB6.2.1.below hb,HB6.2.2.1.below hb,HB6.2.2.2.1.later hb,HB6.2.2.2.2.1.below hb,HB6.2.2.2.2.2.1.below hb,HB6.2.2.2.2.2.2.later hb⟩;clear hb HB6 HL HE6;have g1:=HB7.2.1.cl;have g2:=HB7.2.2.2.2.1.cl;have c1:=HB7.2.2.1.c0;have c2:=HB7.2.2.1.c1;have c3':=HB7.2.2.2.2.2.1.c0;have c4:=HB7.2.2.2.2.2.1.c1;go_wp2_with fail;refine (HS _ _ _ HB7.2.2.2.1 HB7.2.2.2.2.2.2).mono ?_;rintro e w8 ⟨rfl,hb⟩;have HB8:Hid (Below w.heap.size w w8):=HB7.1.trans (hb.mono HB7.1.size);clear hb HB7 HS g1 g2 c1 c2 c3' c4;go_wp2_with fail;go_ret
 exact ⟨rfl,HB8.out⟩
end Go.Proofs.YtkihfkcmcdiajaaGreatDoor.N
namespace Go.Proofs.YtkihfkcmcdiajaaGreatDoor
open Go.ChangeShapes Go.WideShapes Go.ChangeAt Go.RowKit
open Go.ChangeMaps (open_string shut_string)
theorem zcD (H:Type) (enc:TypeId×Value->H) (W:World) (base:Nat) (args:Array Value) (ds gs:List (DataW H)) (before:List MemPlace)
  (hval0:∀(j:Nat) t v,Tryz.f3.params[j]?=some t->args[j]?=some v->Value.okWide Tryz.prog W .any base t v)
  (hW:DataW.Whole enc Tryz.prog Tryz.f3.params.toList Rows.notationReadsSpec.vars false W args.toList ds gs before) (hvb:N.GW W)
  (hsz:(DataW.weightsEach Tryz.prog (Tryz.f3.params.toList++(OpenSpec.ofChange Rows.notationReadsSpec).bare.plain.varTypes Tryz.prog) (ds++gs)).all (·<=reachBytes)=true) :
  Calls Tryz.prog 3 args W fun e W'=>∃v,e=.returned v/\Rows.notationReadsSpec.post enc Tryz.prog Tryz.f3 false true false false W args v W':=by
 have hval:∀(j:Nat) t v,Tryz.f3.params[j]?=some t->args[j]?=some v->Value.okWide Tryz.prog W .any base t v:=hval0;have hW':=hW;obtain ⟨p,q,hA0,hV,rfl,hfz,hnd⟩:=hW;have hA:DataW.TrodAll enc Tryz.prog W 0 (fun _=>true) true Tryz.f3.params.toList args.toList ds p:=hA0;rw [Tryz.params3] at hA hval hsz;obtain ⟨v1,d1,rfl,rfl,h1⟩:=trodAll_one hA;obtain ⟨rfl,rfl⟩:=trodVars_none hV;obtain ⟨s1,rfl,rfl,rfl,hs1⟩:=open_string Tryz.underlying9 (hval 0 9 v1 rfl rfl) h1;clear hA0 hval0;have hb:s1.size<=140737488355000:=by
  have h:=sized_string hsz (j:=0) rfl rfl;have e:s1.data.toList.length=s1.size:=rfl;have r:reachBytes<=140737488355000:=by decide
  omega
 refine (N.zlg s1 hb W hvb).mono fun e W' ⟨he,bel⟩=>?_
 subst he;exact ⟨_,rfl,_,_,_,[],_,[],hW',trodAll_mk1 (shut_bool Tryz.underlying4 _),(trodAll_cons_mk (shut_string Tryz.underlying9 hs1) trodAll_mk0),rfl,bel.frame _,fun h=>by cases h⟩
theorem zdX (os:Os):laidMet Tryz.prog Rows.notationReadsRow.laid ((zkx (World.holding Tryz.prog os ⟨#[],#[],[]⟩)).forCall (fun _ _=>0) ⟨#[],#[.string ByteArray.empty],[]⟩).memory :=
 laidMet_of_run' 8 (by kernel_rfl) (by kernel_rfl)
theorem zdk (os:Os) {H:Type} (enc:TypeId×Value->H):∃places,DataW.whole enc Tryz.prog ((zkx (World.holding Tryz.prog os ⟨#[],#[],[]⟩)).forCall (fun _ _=>0) ⟨#[],#[.string ByteArray.empty],[]⟩).memory Tryz.f3.params.toList Rows.notationReadsSpec.vars false (#[.string ByteArray.empty]:Array Value).toList 8=some ([.lit (.string [])],[],places) :=
 ⟨[],by kernel_rfl⟩
theorem zc5 (os:Os) (started:os.Started) (H:Type) (enc:TypeId×Value->H) (F:Stop.Interp) :
  ReturnsInHanded {} Tryz.checked os 3 .any ((OpenSpec.ofChange Rows.notationReadsSpec).preRow enc Tryz.prog Tryz.f3 Rows.notationReadsRow.domain false Rows.notationReadsRow.laid) (((OpenSpec.ofChange Rows.notationReadsSpec).at F).post enc Tryz.prog Tryz.f3 false true false false):=by
 obtain ⟨places,hx⟩:=zdk os enc;refine returnsInHanded_of_row (C:=Tryz.checked) (s:=OpenSpec.ofChange Rows.notationReadsSpec) own started (by kernel_rfl) Tryz.func3
  (witness_row_at (enc:=enc) (C:=Tryz.checked) false (zkx (World.holding Tryz.prog os ⟨#[],#[],[]⟩)) #[.string ByteArray.empty] rfl (by kernel_rfl) (by kernel_rfl) (by kernel_rfl)
   (OpenSpec.preRow_of_cond 8 hx (by kernel_rfl) (fun k hk=>by cases hk) (by kernel_rfl) (zdX os))) ?_
 intro W base args ds gs before hval hW _ hcond hsz hL _ _;exact zcD H enc W base args ds gs before hval hW (zit hL) hsz
theorem zdY:Rows.NotationReadsSaid :=
 OpenClaim.holds_of_cond 3 Tryz.f3 rfl rfl rfl rfl rfl rfl rfl ⟨rfl,rfl,rfl,rfl,rfl⟩ rfl rfl rfl rfl rfl (by kernel_rfl) Tryz.func3 (by kernel_rfl)
  (of_decide_eq_true (by kernel_rfl)) (by unfold Func.isWrapper;first | (rw [iP (by decide +kernel)];kernel_rfl) | (rw [iN (by decide +kernel)];exact ⟨rfl,rfl⟩))
  (fun os started H enc _ F=>by rw [OpenClaim.pre_eq_preRow];exact zc5 os started H enc F)
theorem zdl (f : FuncId) (fn : Func) (hf : Tryz.pinned.checked.prog.funcNamed "harrow/harrowlaw06.NotationReads" = some f) (hfn : Tryz.pinned.checked.prog.funcs[f]? = some fn) :
  true=Tryz.pinned.checked.prog.looks []/\∀(j:Nat) t,fn.params[j]?=some t->Tryz.pinned.checked.prog.wantsStandIn t=false:=by
 obtain rfl : f = 3 := Option.some.inj ((show Tryz.prog.funcNamed "harrow/harrowlaw06.NotationReads" = some 3 by kernel_rfl).symm.trans hf) |>.symm
 obtain rfl:fn=Tryz.f3:=(Option.some.inj (Tryz.func3.symm.trans hfn)).symm;refine ⟨by kernel_rfl,fun j t ht=>?_⟩;rw [Tryz.params3] at ht;have hm:t∈[9]:=by simpa using Array.mem_of_getElem? ht
 have hall:([9].all fun u=>!Tryz.prog.wantsStandIn u)=true:=by kernel_rfl
 exact (show Tryz.prog.wantsStandIn t=false by simpa using List.all_eq_true.1 hall t hm)
theorem notationReads_holds:Rows.NotationReadsCardSaid :=
 Claim7.holds_tied_plain_at .later [] _ _ _ _ zdY (fun _ h=>by cases h) (by kernel_rfl) (fun _ h=>by cases h) notationReads_row_tie rfl ⟨rfl,rfl⟩ (by kernel_rfl) rfl zdl (by kernel_rfl)
end Go.Proofs.YtkihfkcmcdiajaaGreatDoor
