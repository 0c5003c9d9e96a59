/- DERIVED. Plain mathematics and walks, laid together (19). -/
import Derived.Test.YtkihfkcmcdiajaaGreatDoorPr18
set_option maxRecDepth 100000
set_option maxHeartbeats 8000000
namespace Go.Proofs.YtkihfkcmcdiajaaGreatDoor.N
open Go.RowKit
theorem PF_all (E:PE) (P:Nd->Prop) (h0:∀op,P (nd0 op)) (hs:∀i p,zgB E i=.inl p->P p.1) (hl:∀i p,zbu E i=.inl p->∀n∈p.1,P n) (hc:∀i p,zbu E i=.inr p->∀n∈p.2,P n):∀(f m i d a:Nat) (ns:List Nd),PF E f m i d=.inl (a,ns)->∀n∈ns,P n:=by
 have two:∀{x y:List Nd},(∀n∈x,P n)->(∀n∈y,P n)->∀n∈x++y,P n:=fun hx hy n hn=>(List.mem_append.1 hn).elim (hx n) (hy n)
 have one:∀op,∀n∈[nd0 op],P n:=fun op n hn=>by rw [List.mem_singleton.1 hn];exact h0 op
 have nil:∀n∈([]:List Nd),P n:=fun n hn=>by cases hn
 intro f
 induction f with
 | zero=>intro m i d a ns h;rw [PF] at h;cases h
 | succ f ih =>
  intro m i d a ns h;rw [PF] at h;by_cases m0:m=0
  ·rw [iP m0] at h
   obtain ⟨a1,n1,r1,h⟩:=zaN h;obtain ⟨n2,r2,e2⟩:=zaZ h;dsimp only at e2;rw [e2];exact two (ih _ _ _ _ _ r1) (ih _ _ _ _ _ r2)
  rw [iN m0] at h;by_cases m1:m=1
  ·rw [iP m1] at h
   by_cases k7:kdA E i=7
   ·rw [iP k7] at h
    obtain ⟨a1,n1,r1,h⟩:=zaN h;obtain ⟨n2,r2,e2⟩:=zaZ h;dsimp only at e2;rw [e2];exact two (two (ih _ _ _ _ _ r1) (one _)) (ih _ _ _ _ _ r2)
   ·rw [iN k7] at h
    cases h
    exact nil
  rw [iN m1] at h;by_cases m2:m=2
  ·rw [iP m2] at h
   obtain ⟨a1,n1,r1,h⟩:=zaN h;obtain ⟨n2,r2,e2⟩:=zaZ h;dsimp only at e2;rw [e2];exact two (ih _ _ _ _ _ r1) (ih _ _ _ _ _ r2)
  rw [iN m2] at h;by_cases m3:m=3
  ·rw [iP m3] at h
   by_cases kb:bgn E i=true
   ·rw [iP kb] at h
    obtain ⟨a1,n1,r1,h⟩:=zaN h;obtain ⟨n2,r2,e2⟩:=zaZ h;dsimp only at e2;rw [e2];exact two (two (ih _ _ _ _ _ r1) (one _)) (ih _ _ _ _ _ r2)
   ·rw [iN kb] at h
    cases h
    exact nil
  rw [iN m3] at h;by_cases m4:m=4
  ·rw [iP m4] at h
   by_cases kb:bgn E i=true
   ·rw [iP kb] at h
    by_cases k8:kdA E i=8∨kdA E i=9
    ·rw [iP k8] at h
     split at h
     ·cases h
     ·obtain ⟨a1,n1,r1,h⟩:=zaN h
      cases h
      exact two (ih _ _ _ _ _ r1) (one _)
    ·rw [iN k8] at h
     obtain ⟨a1,n1,r1,h⟩:=zaN h;obtain ⟨n2,r2,e2⟩:=zaZ h;dsimp only at e2;rw [e2];exact two (ih _ _ _ _ _ r1) (ih _ _ _ _ _ r2)
   ·rw [iN kb] at h;cases h
  rw [iN m4] at h;by_cases m5:m=5
  ·rw [iP m5] at h
   cases hp:zbu E i with
   | inl p =>
    rw [hp] at h
    cases h
    exact hl i p hp
   | inr p =>
    rw [hp] at h;dsimp only at h
    split at h
    ·cases h
    ·obtain ⟨a1,n1,r1,h⟩:=zaN h
     split at h
     ·cases h
      exact two (ih _ _ _ _ _ r1) (hc i p hp)
     ·cases h
  rw [iN m5] at h
  cases hp:zgB E i with
  | inr q =>
   rw [hp] at h
   cases q with
   | none=>cases h;exact nil
   | some c=>cases h
  | inl p =>
   rw [hp] at h;dsimp only at h;obtain ⟨n2,r2,e2⟩:=zaZ h;dsimp only at e2;rw [e2];exact two (fun n hn=>by rw [List.mem_singleton.1 hn];exact hs i p hp) (ih _ _ _ _ _ r2)
theorem zo1 {E:PE} (hE:OkE E) (i:Nat):(tkA E i).tx.size<=65536:=by
 unfold tkA;by_cases h:i<E.l.length
 ·rw [gE h]
  exact hE.tx _ (List.getElem_mem h)
 ·rw [List.getElem?_eq_none (by omega)]
  exact Nat.zero_le _
theorem zhU (op:Int):(nd0 op).tx.size<=65536:=Nat.zero_le _
theorem rnP_tx (a b:Int):∀n∈rnP a b,n.tx.size<=65536:=fun n hn=>by
 unfold rnP at hn;rw [List.mem_map] at hn;obtain ⟨m,_,rfl⟩:=hn;exact Nat.zero_le _
theorem zo2 {E:PE} (hE:OkE E) {i a:Nat} {ns:List Nd} (h:exN E i=.inl (a,ns)):∀n∈ns,n.tx.size<=65536:=by
 refine PF_all E (fun n=>n.tx.size<=65536) zhU ?_ ?_ ?_ _ _ _ _ _ _ h
 ·intro i p hp
  unfold zgB zi1 at hp;have e0:(⟨#[]⟩:ByteArray).size<=65536:=Nat.zero_le _;have hu:=zo1 hE (i+1)
  repeat (split at hp;· cases hp;first | exact zhU _ | exact e0)
  split at hp
  ·split at hp
   ·split at hp
    ·cases hp;exact hu
    ·cases hp
   ·split at hp
    ·split at hp
     ·cases hp
     ·cases hp;exact e0
    ·cases hp
  ·cases hp
 ·intro i p hp n hn
  have hu:=zo1 hE i;unfold zbu at hp;rw [hE.rn] at hp;unfold zbZ at hp;have one:∀op,n∈[nd0 op]->n.tx.size<=65536:=fun op q=>by rw [List.mem_singleton.1 q];exact zhU op
  by_cases c0:(tkA E i).kd=2
  ·rw [iP c0] at hp
   cases hp
   dsimp only at hn
   split at hn
   ·exact one _ hn
   ·rw [List.mem_singleton.1 hn];exact hu
  rw [iN c0] at hp;by_cases c1:(tkA E i).kd=3∨(tkA E i).kd=28
  ·rw [iP c1] at hp
   cases hp
   rw [List.mem_singleton.1 hn];exact Nat.zero_le _
  rw [iN c1] at hp;by_cases c2:(tkA E i).kd=5
  ·rw [iP c2] at hp
   cases hp
   exact rnP_tx _ _ n hn
  rw [iN c2] at hp;by_cases c3:(tkA E i).kd=18
  ·rw [iP c3] at hp;cases hp;exact one _ hn
  rw [iN c3] at hp;by_cases c4:(tkA E i).kd=29
  ·rw [iP c4] at hp;cases hp;exact one _ hn
  rw [iN c4] at hp;by_cases c5:(tkA E i).kd=30
  ·rw [iP c5] at hp;cases hp;exact one _ hn
  rw [iN c5] at hp;by_cases c6:(tkA E i).kd=1
  ·rw [iP c6] at hp;cases hp;rw [List.mem_singleton.1 hn];exact hu
  rw [iN c6] at hp;by_cases c7:(tkA E i).kd=16
  ·rw [iP c7] at hp;cases hp
  rw [iN c7] at hp;by_cases c8:(tkA E i).kd=19
  ·rw [iP c8] at hp
   split at hp
   ·cases hp;exact one _ hn
   ·cases hp
  rw [iN c8] at hp
  split at hp
  ·cases hp
  ·split at hp <;> cases hp
 ·intro i p hp n hn
  have hu:=zo1 hE i;unfold zbu zbZ at hp;have one:∀op,n∈[nd0 op]->n.tx.size<=65536:=fun op q=>by rw [List.mem_singleton.1 q];exact zhU op
  by_cases c0:(tkA E i).kd=2
  ·rw [iP c0] at hp;cases hp
  rw [iN c0] at hp;by_cases c1:(tkA E i).kd=3∨(tkA E i).kd=28
  ·rw [iP c1] at hp;cases hp
  rw [iN c1] at hp;by_cases c2:(tkA E i).kd=5
  ·rw [iP c2] at hp;cases hp
  rw [iN c2] at hp;by_cases c3:(tkA E i).kd=18
  ·rw [iP c3] at hp;cases hp
  rw [iN c3] at hp;by_cases c4:(tkA E i).kd=29
  ·rw [iP c4] at hp;cases hp
  rw [iN c4] at hp;by_cases c5:(tkA E i).kd=30
  ·rw [iP c5] at hp;cases hp
  rw [iN c5] at hp;by_cases c6:(tkA E i).kd=1
  ·rw [iP c6] at hp;cases hp
  rw [iN c6] at hp;by_cases c7:(tkA E i).kd=16
  ·rw [iP c7] at hp;cases hp;cases hn
  rw [iN c7] at hp;by_cases c8:(tkA E i).kd=19
  ·rw [iP c8] at hp
   split at hp
   ·cases hp
   ·cases hp;exact one _ hn
  rw [iN c8] at hp;by_cases c9:(tkA E i).kd=21
  ·rw [iP c9] at hp;cases hp;rw [List.mem_singleton.1 hn];exact hu
  rw [iN c9] at hp
  split at hp
  ·cases hp;exact one _ hn
  ·cases hp;exact one _ hn
theorem rlG_tx {E:PE} (hE:OkE E):∀(f i:Nat) (out rs:List Rl),(∀r∈out,∀n∈r.2.2,n.tx.size<=65536)->rlG (exN E) E f i out=.inl rs->∀r∈rs,∀n∈r.2.2,n.tx.size<=65536:=by
 intro f
 induction f with
 | zero=>intro i out rs h0 h;rw [rlG] at h;cases h;exact h0
 | succ f ih =>
  intro i out rs h0 h;rw [rlG] at h;by_cases hi:i<E.l.length
  ·rw [iP hi] at h
   by_cases hr:ruB E i=true
   ·rw [iP hr] at h
    cases he:exN E (i+2) with
    | inr p=>rw [he] at h;cases h
    | inl p =>
     rw [he] at h;refine ih _ _ _ (fun r hr2=>?_) h
     rcases List.mem_append.1 hr2 with q | q
     ·exact h0 r q
     ·rw [List.mem_singleton.1 q];exact zo2 hE he
   ·rw [iN hr] at h;cases h
  ·rw [iN hi] at h;cases h;exact h0
theorem zkY {E:PE} (hE:OkE E) {rs:List Rl} (h:rdN E=.inl rs):∀r∈rs,∀n∈r.2.2,n.tx.size<=65536:=by
 unfold rdN at h
 split at h
 ·exact rlG_tx hE _ _ _ _ (fun r hr=>by cases hr) h
 ·cases he:exN E 0 with
  | inr p=>rw [he] at h;cases h
  | inl p =>
   rw [he] at h;dsimp only at h
   split at h
   ·cases h
   ·cases h
    intro r hr;rw [List.mem_singleton.1 hr];exact zo2 hE he
structure GX (W:World) (k:Nat) (a:Value):Prop where
 heap:W.heap[k]?=some (.cells #[a] 24 (0,0))
theorem GX.lt {W:World} {k:Nat} {a:Value} (h:GX W k a):k<W.heap.size:=(Array.getElem?_eq_some_iff.1 h.heap).1
theorem GX.same {W W':World} {k:Nat} {a:Value} (h:GX W k a) (hb:W'.heap[k]?=W.heap[k]?):GX W' k a:=⟨hb.trans h.heap⟩
theorem GX.below {W W':World} {k:Nat} {a:Value} (h:GX W k a) (hb:Below W.heap.size W W'):GX W' k a:=h.same (hb.block k h.lt)
theorem GX.cl {W:World} {k:Nat} {a:Value} (h:GX W k a):W.cell? ⟨k,0,none⟩=some a:=by
 rw [cell_of_row W k 0 _ 24 (0,0) h.heap];rfl
theorem GX.fz {W:World} {k:Nat} {a:Value} (h:GX W k a):W.frozen? ⟨k,0,none⟩=false:=frozen_of_row W k 0 _ 24 h.heap
theorem GX.set {W:World} {k:Nat} {a:Value} (h:GX W k a) (u:Value):GX (W.setCell ⟨k,0,none⟩ u) k u:=⟨by
 rw [heap_setCell_same _ k 0 _ 24 u h.heap];simp⟩
theorem GX.ne {W:World} {k B e s n:Nat} {u a:Value} {xs:List Value} (h:GX W k a) (ho:W.ownsRow B e s u n xs) (he:e≠24) {j:Nat} (hj:u.ownBlock=some j):j≠k:=fun q=>by
 subst q;obtain ⟨cs,hc⟩:=zdZ ho hj;rw [h.heap] at hc
 injection hc with h4
 injection h4 with _ h5
 exact he h5.symm
theorem Tryz.info41:(Tryz.prog.info? 41).map (fun i=>(i.zero,i.size,i.bytes))=some (some (.agg #[.string ⟨#[]⟩,.slice none 0 0]),2,40):=by kernel_rfl
def grV (x:Rl×Value):List Value:=[.string x.1.2.1,x.2]
def grc (l:List (Rl×Value)):List Value:=l.flatMap grV
theorem zfi (a b:List (Rl×Value)):grc (a++b)=grc a++grc b:=List.flatMap_append
theorem zkZ (x:Rl×Value):grc [x]=grV x:=by unfold grc;rw [List.flatMap_cons,List.flatMap_nil,List.append_nil]
theorem zo3 (E:PE) (z:Nat) (L:List (Rl×Value)):∀(k j:Nat) (x:Rl×Value) (u:Value),L[k]?=some x->(plV E z x)[j]?=some u->(plc E z L)[k * 3+j]?=some u:=by
 induction L with
 | nil=>intro k j t u h;simp at h
 | cons a L ih =>
  intro k j t u h hj;have e:plc E z (a::L)=plV E z a++plc E z L:=by unfold plc;rw [List.flatMap_cons]
  have hl:(plV E z a).length=3:=rfl;rw [e]
  cases k with
  | zero =>
   have h:a=t:=by simpa using h
   subst h;rw [Nat.zero_mul,Nat.zero_add,List.getElem?_append_left (by have:=(List.getElem?_eq_some_iff.1 hj).1;omega)];exact hj
  | succ k =>
   rw [List.getElem?_append_right (by omega),hl,show (k+1) * 3+j - 3=k * 3+j from by omega];exact ih k j t u (by simpa using h) hj
theorem znf {E:PE} {z:Nat} {W:World} {B:Nat} {u:Value} {ov:List (Rl×Value)} (h:W.ownsRow B 62 3 u ov.length (plc E z ov)):∃A c,u=.slice A ov.length c/\∀(k:Nat) x,ov[k]?=some x->∃g,A=some ⟨g,0,none⟩/\g<W.heap.size/\W.cell? ⟨g,k * 3,none⟩=some (.int .i64 (plA E z x.1.1))/\W.cell? ⟨g,k * 3+1,none⟩=some (.string x.1.2.1)/\W.cell? ⟨g,k * 3+2,none⟩=some x.2:=by
 have hc:=h
 rcases h.2 with ⟨rfl,h0⟩ | ⟨g,cap,cur,rfl,_⟩
 ·refine ⟨none,0,by rw [h0],fun k x hk=>?_⟩
  rw [List.eq_nil_of_length_eq_zero h0] at hk;simp at hk
 ·refine ⟨_,cap,rfl,fun k x hk=>⟨g,rfl,(hc.lt g rfl).2,?_⟩⟩
  have key:∀j u,(plV E z x)[j]?=some u->W.cell? ⟨g,k * 3+j,none⟩=some u:=fun j u hj=>by
   have:=(hc.cells (g:=g) rfl) (k * 3+j) u (zo3 E z ov k j x u hk hj)
   rwa [Addr.add_lit,Nat.zero_add] at this
  exact ⟨key 0 _ rfl,key 1 _ rfl,key 2 _ rfl⟩
def smN (ov:List (Rl×Value)) (k:Nat):Nat:=((ov.take k).map fun x=>x.1.2.2.length).sum
theorem zem {ov:List (Rl×Value)} {k:Nat} {x:Rl×Value} (h:ov[k]?=some x):smN ov (k+1)=smN ov k+x.1.2.2.length:=by
 unfold smN;rw [List.take_add_one,h,List.map_append,List.sum_append];simp
structure AtO (w0 W wr:World) (gv:Value) (ov:List (Rl×Value)) (k:Nat):Prop where
 b:Below W.heap.size W wr
 r:GX wr W.heap.size (.slice none 0 0)
 x:GX wr (W.heap.size+1) gv
 o:wr.ownsRow W.heap.size 41 2 gv k (grc (ov.take k))
theorem AtO.later {w0 W wr W':World} {gv:Value} {ov:List (Rl×Value)} {k:Nat} (h:AtO w0 W wr gv ov k) (hb:Below wr.heap.size wr W'):AtO w0 W W' gv ov k :=
 ⟨h.b.trans (hb.mono h.b.size),h.r.below hb,h.x.below hb,zi6 h.o hb⟩
def GrV (_w0 W:World) (ov:List (Rl×Value)) (r:Option (Int×Int)) (e:Ending) (W':World):Prop:=match r with
 | some p=>e=pnc p.1 p.2/\Below W.heap.size W W'
 | none=>∃u,e=.returned (.agg #[u])/\W'.ownsRow W.heap.size 41 2 u ov.length (grc ov)/\Below W.heap.size W W'
theorem ret_gx {fn:Func} {R:Ending->World->Prop} {act:Act} {W:World} {k:Nat} {a:Value} (hF:fn.results=#[.cell 2 24]) (hd:act.defers=[]) (h2:act.tmps.getD 2 undef=.pointer (some ⟨k,0,none⟩)) (hT:GX W k a) (hR:R (.returned (.agg #[a])) W):bodyPost Tryz.prog fn R .ret act W:=by
 have c0:=hT.cl;refine bodyPost_ret (v:=.agg #[a]) ?_ hd hR;simp only [Array.getD_eq_getD_getElem?] at h2;simp [results,hF,go_sem,h2,c0]
theorem ze2 {E:PE} {z:Nat} {w0 W:World} {u:Value} {ov:List (Rl×Value)} (ho:W.ownsRow w0.heap.size 62 3 u ov.length (plc E z ov)) (x:Rl×Value) (hx:ov[200]?=some x) (hn:ov.length<=65536):Calls Tryz.prog 24 #[u] W fun e W'=>e=pnc (plA E z x.1.1) 2/\Below W.heap.size W W':=by
 obtain ⟨A,c,rfl,hc⟩:=znf ho;obtain ⟨g,rfl,hlt,e0,e1,e2⟩:=hc 200 x hx;have hl:200<ov.length:=(List.getElem?_eq_some_iff.1 hx).1;have HU:Hid (∀a c W,Cl 45 #[.int .i64 a,.int .i64 c] W fun e W'=>e=pnc a c/\W'=W):=fun a c W=>zcY a c W
 have z1:(200:Int)<(ov.length:Int):=by omega
 have HB:Hid (Below W.heap.size W (W.alloc (.cells #[.slice none 0 0] 24))):=zaa _ _;have e0':=(HB.cell (p:=⟨g,200 * 3,none⟩) hlt).trans e0;clear ho hc hx e0 e1 e2 hl;generalize plA E z x.1.1=p0 at *;generalize ov.length=n at *;go_enter Tryz.func24,Tryz.ntmps24;go_wp2_with fail;generalize W.alloc (.cells #[.slice none 0 0] 24)=w1 at *;go_wp2_with fail;refine (HU _ _ _).mono ?_;rintro e w2 ⟨rfl,rfl⟩;exact zah rfl ⟨rfl,HB.out⟩
theorem zfS {E:PE} {z:Nat} {w0 W:World} {u:Value} {ov:List (Rl×Value)} (ho:W.ownsRow w0.heap.size 62 3 u ov.length (plc E z ov)) (hb:Bds w0 W ov) (htx:∀x∈ov,∀n∈x.1.2.2,n.tx.size<=65536) (hln:∀x∈ov,x.1.2.2.length<=2000000000000) (hn:ov.length<=200):Calls Tryz.prog 24 #[u] W fun e W'=>GrV w0 W ov (zd3 E z 0 (ov.map (·.1))) e W':=by
 obtain ⟨i0,hinf,hz0,hz1,hz2⟩:=info_parts Tryz.info41;obtain ⟨A,c,rfl,hc⟩:=znf ho;have HC:=hO hc;have HBd:=hO hb;have HTx:=hO htx;have HLn:=hO hln;have HG:Hid (∀k,k<ov.length->∃x,ov[k]?=some x/\x∈ov):=fun k hk=>⟨_,gE hk,List.getElem_mem hk⟩
 have HU:Hid (∀a c W,Cl 45 #[.int .i64 a,.int .i64 c] W fun e W'=>e=pnc a c/\W'=W):=fun a c W=>zcY a c W
 have HA:=(show Hid (AtO w0 W ((W.alloc (.cells #[.slice none 0 0] 24)).alloc (.cells #[.slice none 0 0] 24)) (.slice none 0 0) ov 0) from
  ⟨((bR _ _).alloc (nL _) _).alloc (by rw [sA];omega) _,(GX.mk (heap_alloc_new W _)).below (zaa _ _),⟨by have h:=heap_alloc_new (W.alloc (.cells #[.slice none 0 0] 24)) (.cells #[.slice none 0 0] 24);(try unfold rB at h);rw [sA] at h;exact h⟩,World.ownsRow_nil _ _ _ _⟩)
 have z2:¬(200:Int)<(ov.length:Int):=by omega
 have HZ0:Hid (zd3 E z 0 (ov.map (·.1))=zd3 E z (smN ov 0) ((ov.drop 0).map (·.1))):=rfl;generalize zd3 E z 0 (ov.map (·.1))=R0 at *;clear ho hb htx hln hc;go_enter Tryz.func24,Tryz.ntmps24;go_wp2_with fail;generalize (W.alloc (.cells #[.slice none 0 0] 24)).alloc (.cells #[.slice none 0 0] 24)=w1 at *;go_loopw [4,19] (fun s t wr=>∃(k:Nat) (gv:Value),k<=ov.length/\smN ov k<=2048/\s=.int .i64 (smN ov k:Nat)/\t=.int .i64 k/\Hid (AtO w0 W wr gv ov k)/\Hid (R0=zd3 E z (smN ov k) ((ov.drop k).map (·.1)))) (fun _ t _=>ov.length - (intOf t).toNat)
 case atStart=>exact ⟨0,_,Nat.zero_le _,Nat.zero_le _,rfl,rfl,HA,HZ0⟩
 case round =>
  obtain ⟨k,gv,hk,hsm,rfl,rfl,HW,HR⟩:=hrel;clear HA HZ0;by_cases hlt:k<ov.length
  ·obtain ⟨x,hx,hxm⟩:=HG k hlt
   obtain ⟨g,rfl,hglt,e0,e1,e2⟩:=HC k x hx;have hb1:=HBd.e x hxm;obtain ⟨A2,n2,hv2⟩:=zag hb1;have HSz:Hid (R0=if (T.ck x.1.2.2).2≠0 then some (plA E z x.1.1,(T.ck x.1.2.2).2) else if 2048<smN ov k+x.1.2.2.length then some (plA E z x.1.1,2) else zd3 E z (smN ov (k+1)) ((ov.drop (k+1)).map (·.1))):=by
    show R0=_
    rw [HR.out,List.drop_eq_getElem_cons hlt,show ov[k]=x from (List.getElem?_eq_some_iff.1 hx).2,List.map_cons,zd3,zem hx]
   have hsm1:=zem hx;obtain ⟨m1,hm1⟩:∃m,m=smN ov (k+1):=⟨_,rfl⟩;rw [<-hm1] at hsm1 HSz;have HTk:Hid (grc (ov.take (k+1))=grc (ov.take k)++[.string x.1.2.1,x.2]):=by show grc _=_;rw [List.take_add_one,hx,zfi];show _++grc [x]=_;rw [zkZ];rfl
   have HCk:Hid (∀W2,Below W.heap.size W W2->Cl 16 #[.slice A2 x.1.2.2.length n2] W2 (rB W2 (.tuple #[.int .i64 (T.ck x.1.2.2).1,.int .i64 (T.ck x.1.2.2).2]))):=fun W2 hW2=>by
    have hrow:=zal (W':=W2) hb1 fun j hj=>hW2.block j (hb1.lt j hj).2
    rw [hv2] at hrow;obtain ⟨A3,c3,e3,hrd⟩:=T.zkV hrow rfl
    cases e3
    exact T.zf2 _ _ _ (by have:=HLn x hxm;omega) (fun n hn=>by have:=HTx x hxm n hn;omega) W2 hrd
   have hlx:=HLn x hxm;rw [hv2] at e2 HTk;have d0:=(HW.b.cell (p:=⟨g,k * 3,none⟩) hglt).trans e0;have d1:=(HW.b.cell (p:=⟨g,k * 3+1,none⟩) hglt).trans e1;have d2:=(HW.b.cell (p:=⟨g,k * 3+2,none⟩) hglt).trans e2;clear e0 e1 e2 hx hxm hb1 hv2 HG HR HBd HTx HLn HC;generalize T.ck x.1.2.2=r at *;generalize x.1.2.2.length=nl at *;generalize x.1.2.1=nm at *;generalize plA E z x.1.1=p0 at *;have z0:(0:Int)<=(k:Int):=by omega
   have z1:(k:Int)<(ov.length:Int):=by omega
   have hsz:=HW.b.size;have HB1:Hid (AtO w0 W (wr.alloc (.cells #[.int .i64 p0,.string nm,.slice A2 nl n2] 62)) gv ov k/\PX (wr.alloc (.cells #[.int .i64 p0,.string nm,.slice A2 nl n2] 62)) wr.heap.size (.int .i64 p0) (.string nm) (.slice A2 nl n2)):=⟨HW.later (zaa _ _),⟨heap_alloc_new wr _⟩⟩;go_wp2_with fail;refine (HCk _ HB1.1.b).mono ?_;rintro e w2 ⟨rfl,hb2⟩;have HB2:Hid (AtO w0 W w2 gv ov k/\PX w2 wr.heap.size (.int .i64 p0) (.string nm) (.slice A2 nl n2)):=⟨HB1.1.later hb2,HB1.2.same (hb2.block _ HB1.2.lt)⟩;clear hb2 HB1 HCk d0 d1 d2 HW;obtain ⟨y0,y1,y2⟩:=HB2.2.cl;by_cases hr2:r.2=0
   ·have t1:(r.2 != 0)=false:=by rw [hr2];rfl
    have u1:IntKind.i64.wrap ((smN ov k:Nat)+(nl:Int))=(m1:Int):=by rw [wI];omega
    by_cases h48:2048<m1
    ·have HV:Hid (R0=some (p0,2)):=by show R0=_;rw [HSz.out,iN (by rw [hr2];simp),iP (by omega)]
     have t2:(2048:Int)<(m1:Int):=by omega
     clear HSz hr2 hsm1 hm1 HTk;generalize smN ov k=s0 at *;go_wp2_with fail;refine (HU _ _ _).mono ?_;rintro e w3 ⟨rfl,rfl⟩;exact zah (P:=Tryz.prog) (fn:=Tryz.f24) rfl (by show GrV w0 W ov R0 _ _;rw [HV.out];exact ⟨rfl,HB2.1.b⟩)
    ·have HV:Hid (R0=zd3 E z m1 ((ov.drop (k+1)).map (·.1))):=by show R0=_;rw [HSz.out,iN (by rw [hr2];simp),iN (by omega)]
     have t2:¬(2048:Int)<(m1:Int):=by omega
     have hO:=HB2.1.o;have q0:=HB2.1.x.cl;have qf:=HB2.1.x.fz;have HM:Hid (m1=smN ov (k+1)):=hm1;clear HSz hr2 hsm1 hm1;generalize hs0:smN ov k=s0 at *;clear hs0;have hs2:=HB2.1.b.size;go_wp2_with (at_builtin;refine wpList_append_lies _ rfl _ _ 22 rfl W.heap.size 41 i0 (.agg #[.string ⟨#[]⟩,.slice none 0 0]) 2 40 Tryz.underlying22 hinf hz0 hz1 hz2 rfl (by decide) _ _ _ rfl (hO.alloc _) ⟨w2.heap.size,0,none⟩ 1 1 [.string nm,.slice A2 nl n2] rfl rfl ?c1 ?c2 (by decide) ?c3 ?c4 ?c5 (w2.heap.size+1) (by simp) ?_)
     case c1=>exact World.news_of_block (cs:=#[.string nm,.slice A2 nl n2]) (t:=41) (fr:=(0,0)) (heap_alloc_new w2 _)
     case c2=>intro u hu;simp only [List.mem_cons,List.not_mem_nil,or_false] at hu;rcases hu with rfl | rfl <;> rfl
     case c3=>unfold maxLen;omega
     case c4=>omega
     case c5=>rw [sA];omega
     intro g3 cap w3 hown hgrow hat hlt3;have hA2:=HB2.1.later (zaa w2 (.cells #[.string nm,.slice A2 nl n2] 41));have hO2:=hO.alloc (.cells #[.string nm,.slice A2 nl n2] 41);have hx3:GX w3 (W.heap.size+1) gv:=hA2.x.same (hgrow.block _ hA2.x.lt (fun e=>hA2.x.ne hO2 (by decide) e.symm rfl));have hr3:GX w3 W.heap.size (.slice none 0 0):=hA2.r.same (hgrow.block _ hA2.r.lt (fun e=>hA2.r.ne hO2 (by decide) e.symm rfl));have hbl3:Below W.heap.size W w3:=hA2.b.grown hgrow hA2.b.size (fun j e=>(hO2.lt j e).1);have HW3:=(show Hid (AtO w0 W (w3.setCell ⟨W.heap.size+1,0,none⟩ (.slice (some ⟨g3,0,none⟩) (k+1) cap)) (.slice (some ⟨g3,0,none⟩) (k+1) cap) ov (k+1)) from
      ⟨hbl3.setCell (p:=⟨W.heap.size+1,0,none⟩) (Nat.le_succ _) _,hr3.same (bS _ _ _ _ (by show W.heap.size≠W.heap.size+1;omega)),hx3.set _,by
       rw [HTk.out];exact zal hown fun j hj=>bS _ _ _ _ (hx3.ne hown (by decide) hj)⟩)
     have q3:=hx3.cl;have qf3:=hx3.fz;clear hown hgrow hat hlt3 hA2 hO2 hx3 hr3 hbl3 hO HB2 q0 qf y0 y1 y2 HTk;go_wp2_with fail;go_roundw
     case rel=>exact ⟨k+1,_,by omega,by rw [<-HM.out];omega,by rw [<-HM.out],by go_num,HW3,by rw [<-HM.out];exact HV⟩
     case measure=>simp [intOf];omega
   ·have t1:(r.2 != 0)=true:=by simpa using hr2
    have HV:Hid (R0=some (p0,r.2)):=by show R0=_;rw [HSz.out,iP hr2]
    clear HSz hr2 hsm1 hm1 HTk;generalize smN ov k=s0 at *;go_wp2_with fail;refine (HU _ _ _).mono ?_;rintro e w3 ⟨rfl,rfl⟩;exact zah (P:=Tryz.prog) (fn:=Tryz.f24) rfl (by show GrV w0 W ov R0 _ _;rw [HV.out];exact ⟨rfl,HB2.1.b⟩)
  ·obtain rfl:k=ov.length:=by omega
   have HV:Hid (R0=none):=by show R0=_;rw [HR.out,List.drop_of_length_le (nL _)];rfl
   have HO:Hid (wr.ownsRow W.heap.size 41 2 gv ov.length (grc ov)):=by have:=HW.o;rw [List.take_of_length_le (nL _)] at this;exact this
   have q0:=HW.x.cl;have r0:=HW.r.cl;have rf:=HW.r.fz;obtain ⟨A3,n3,rfl⟩:=zag HO.out;clear HG HR HBd HTx HLn HC;generalize smN ov ov.length=s0 at *;go_wp2_with fail;refine ret_gx rfl rfl rfl (HW.r.set (.slice A3 ov.length n3)) ?_
   show GrV w0 W ov R0 _ _
   rw [HV.out];exact ⟨_,rfl,zal HO fun j hj=>bS _ _ _ _ (HW.r.ne HO (by decide) hj),HW.b.setCell (p:=⟨W.heap.size,0,none⟩) (nL _) _⟩
structure B4 (k:Nat) (W:World) (tv:Value) (i z d:Int) (v:Value) (p c:Int) (u:Value):Prop where
 s:DB W k tv (.int .i64 i) (.int .i64 z) (.int .i64 d) v (.int .i64 p) (.int .i64 c)
 r:DB W (k+1) (.slice none 0 0) (.int .i64 0) (.int .i64 0) (.int .i64 0) (.slice none 0 0) (.int .i64 0) (.int .i64 0)
 o:GX W (k+2) (.slice none 0 0)
 g:GX W (k+3) u
abbrev gxZ:Obj:=.cells #[.slice none 0 0] 24
section
variable {k:Nat} {W W':World} {tv:Value} {i z d:Int} {v:Value} {p c:Int} {u:Value}
theorem B4.kept (h:B4 k W tv i z d v p c u) (hk:∀j,k<=j->j<k+4->W'.heap[j]?=W.heap[j]?):B4 k W' tv i z d v p c u:=⟨h.s.same (hk _ (by omega) (by omega)),h.r.same (hk _ (by omega) (by omega)),h.o.same (hk _ (by omega) (by omega)),h.g.same (hk _ (by omega) (by omega))⟩
theorem B4.later (h:B4 k W tv i z d v p c u) (hb:Below W.heap.size W W'):B4 k W' tv i z d v p c u:=h.kept fun j h1 h2=>hb.block j (by have:=h.g.lt;omega)
theorem B4.st (h:B4 k W tv i z d v p c u) (tv2:Value) (i2 z2 d2:Int) (v2:Value) (p2 c2:Int):B4 k (st7 W k tv2 (.int .i64 i2) (.int .i64 z2) (.int .i64 d2) v2 (.int .i64 p2) (.int .i64 c2)) tv2 i2 z2 d2 v2 p2 c2 u :=
 ⟨zaH h.s _ _ _ _ _ _ _,h.r.same (zaw _ _ _ _ _ _ _ (by omega)),h.o.same (zaw _ _ _ _ _ _ _ (by omega)),h.g.same (zaw _ _ _ _ _ _ _ (by omega))⟩
theorem B4.sg (h:B4 k W tv i z d v p c u) (x:Value):B4 k (W.setCell ⟨k+3,0,none⟩ x) tv i z d v p c x :=
 ⟨h.s.same (bS _ _ _ _ (by show k≠k+3;omega)),h.r.same (bS _ _ _ _ (by show k+1≠k+3;omega)),h.o.same (bS _ _ _ _ (by show k+2≠k+3;omega)),h.g.set x⟩
end
theorem B4.new (W:World) (tv:Value) (i z d:Int) (v:Value) (p c:Int):B4 W.heap.size ((((W.alloc (rdO tv i z d v p c)).alloc rdZ).alloc gxZ).alloc gxZ) tv i z d v p c (.slice none 0 0)/\Below W.heap.size W ((((W.alloc (rdO tv i z d v p c)).alloc rdZ).alloc gxZ).alloc gxZ)/\W.heap.size+4<=((((W.alloc (rdO tv i z d v p c)).alloc rdZ).alloc gxZ).alloc gxZ).heap.size:=by
 have hX:=BX.new W tv i z d v p c;generalize hw:(W.alloc (rdO tv i z d v p c)).alloc rdZ=w1 at *;have hs:w1.heap.size=W.heap.size+2:=by rw [<-hw,sA,sA]
 have g1:GX (w1.alloc gxZ) (W.heap.size+2) (.slice none 0 0):=by rw [<-hs];exact ⟨heap_alloc_new w1 _⟩
 have g2:GX ((w1.alloc gxZ).alloc gxZ) (W.heap.size+3) (.slice none 0 0):=by
  have h:=heap_alloc_new (w1.alloc gxZ) gxZ;rw [sA,hs] at h;exact ⟨h⟩
 have b2:Below w1.heap.size w1 ((w1.alloc gxZ).alloc gxZ):=((bR _ _).alloc (nL _) _).alloc (by rw [sA];omega) _;exact ⟨⟨(hX.1.later b2).s,(hX.1.later b2).r,g1.below (zaa _ _),g2⟩,hX.2.trans (b2.mono hX.2.size),by rw [sA,sA];omega⟩
theorem zeP {fn:Func} {R:Ending->World->Prop} {act:Act} {W:World} {j k:Nat} {a0 a1 a2 a3 a4 a5 a6 u pv:Value} (hF:fn.results=#[.cell 2 65,.cell 3 24,.tmp 4]) (hd:act.defers=[]) (h2:act.tmps.getD 2 undef=.pointer (some ⟨j,0,none⟩)) (h3:act.tmps.getD 3 undef=.pointer (some ⟨k,0,none⟩)) (h4:act.tmps.getD 4 undef=pv) (hT:DB W j a0 a1 a2 a3 a4 a5 a6) (hG:GX W k u) (hR:R (.returned (.tuple #[.agg #[a0,a1,a2,a3,a4,a5,a6],.agg #[u],pv])) W):bodyPost Tryz.prog fn R .ret act W:=by
 obtain ⟨c0,c1,c2,c3,c4,c5,c6⟩:=hT.cl;have g0:=hG.cl;refine bodyPost_ret (v:=.tuple #[.agg #[a0,a1,a2,a3,a4,a5,a6],.agg #[u],pv]) ?_ hd hR;simp only [Array.getD_eq_getD_getElem?] at h2 h3 h4;simp [results,hF,go_sem,h2,h3,h4,c0,c1,c2,c3,c4,c5,c6,g0]
theorem WS.bad {E:PE} {z:Nat} {w0 W:World} {tv:Value} {nb:Nat} {v0:Value} {Wc:World} {st:St} {i d:Int} {A:Option Addr} {l c:Nat} {p q:Int} (h:WS E z w0 tv W nb v0 Wc st i d A l c p q) (e:Nat×Int) (he:e.2≠0) (i2 d2:Int) (A2:Option Addr) (l2 c2:Nat):WS E z w0 tv W nb v0 Wc (.inr e) i2 d2 A2 l2 c2 (plA E z e.1) e.2 :=
 ⟨⟨rfl,rfl,he,h.bl⟩,h.fd.weak,fun k e=>(by cases e),h.tk,h.sz,h.lo⟩
def RdD (E:PE) (z:Nat) (w0:World) (tv:Value) (r:Sum (List Rl) (Nat×Int)) (e:Ending) (W':World):Prop:=match r with
 | .inr q=>∃(i d:Int) (A:Option Addr) (l c:Nat) (A2:Option Addr) (l2 c2:Nat) (pv:Value),e=.returned (.tuple #[rdV tv i z d (.slice A l c) (plA E z q.1) q.2,.agg #[.slice A2 l2 c2],pv])/\Below w0.heap.size w0 W'
 | .inl rs=>∃(i d:Int) (A:Option Addr) (l c:Nat) (u pv:Value) (ov:List (Rl×Value)),e=.returned (.tuple #[rdV tv i z d (.slice A l c) 0 0,.agg #[u],pv])/\ov.map (·.1)=rs/\W'.ownsRow w0.heap.size 41 2 u ov.length (grc ov)/\Bds w0 W' ov/\W'.ownsRow w0.heap.size 3 1 pv ov.length (ov.map fun x=>.int .i64 (plA E z x.1.1))/\Below w0.heap.size w0 W'
theorem zmB {E:PE} (hE:OkE E) {z:Nat} {w0 W:World} {At:Option Addr} {ct:Nat} (h:DS E w0 W (.slice At E.l.length ct) 0 0 (.slice none 0 0) []) (hr0:ruB E 0=false) (hl0:¬0<E.l.length) {qq:Nat×Int} (h1:stR 0 [] (gN E 0 0 0)=.inr qq) (h2:qq.2≠0) (h3:alN E=.inr qq):Calls Tryz.prog 27 #[rdV (.slice At E.l.length ct) 0 z 0 (.slice none 0 0) 0 0] W fun e W'=>RdD E z w0 (.slice At E.l.length ct) (alN E) e W':=by
 have hlen:=hE.len;have hz:=hE.z;obtain ⟨i0,hinf,hz0,hz1,hz2⟩:=info_parts Tryz.info41;obtain ⟨i1,hinf1,hy0,hy1,hy2⟩:=info_parts T.Tryz.info3;obtain ⟨c0,hc0⟩:∃s,s=(.inl (0,0,[]):St):=⟨_,rfl⟩;obtain ⟨c1,hc1⟩:∃s,s=stR 0 [] (gN E 0 0 0):=⟨_,rfl⟩;have HLo:Hid (w0.heap.size<=W.heap.size):=h.bl.size;have HRu:Hid (∀W,Rv E z w0 (.slice At E.l.length ct) W c0 0 0 none 0 0 0 0->Cl 31 #[rdV (.slice At E.l.length ct) 0 z 0 (.slice none 0 0) 0 0] W (rB W (.bool false))):=fun W h=>by
  rw [hc0] at h;have:=zco h.2.2.2.2.2 z 0 0 hz;rw [hr0] at this;exact this
 have HEx:Hid (∀W,Rv E z w0 (.slice At E.l.length ct) W c0 0 0 none 0 0 0 0->Cl 51 #[rdV (.slice At E.l.length ct) 0 z 0 (.slice none 0 0) 0 0] W fun e W'=>Pu E z w0 (.slice At E.l.length ct) W (.slice none 0 0) c0 c1 e W'):=fun W h=>by
  rw [hc0] at h;rw [hc0,hc1];exact (zdC hE (Nat.zero_le _) W _ [] h.2.2.2.2.2 (Nat.zero_le _)).mono fun _ _ hp=>hp.u fun q hq=>by
   have:=(zbx (Nat.zero_le _) (by omega) hq).2;omega
 have HX:=B4.new W (.slice At E.l.length ct) 0 z 0 (.slice none 0 0) 0 0;have HB:=hO HX.1;have HW:Hid (WS E z w0 (.slice At E.l.length ct) W 4 (.slice none 0 0) ((((W.alloc (rdO (.slice At E.l.length ct) 0 z 0 (.slice none 0 0) 0 0)).alloc rdZ).alloc gxZ).alloc gxZ) c0 0 0 none 0 0 0 0):=by
  rw [hc0];exact WS.new (L:=[]) h HX.2.1 HX.2.2
 have HC0:=hO hc0;rw [h3];have HD1:Hid (c1=_):=hc1.trans h1;have HD2:=hO h2;have t0:¬(0:Int)<(E.l.length:Int):=by omega
 clear hl0;clear hc0 hc1 h1 h2 h3 HX h hE hlen hz hr0;go_enter Tryz.func27,Tryz.ntmps27;go_wp2_with fail;generalize (((W.alloc (rdO (.slice At E.l.length ct) 0 z 0 (.slice none 0 0) 0 0)).alloc rdZ).alloc gxZ).alloc gxZ=w1 at *;refine (HRu _ HW.rv).mono ?_;rintro e w2 ⟨rfl,hb⟩;have HB2:=hO (HB.later hb);have HW2:=hO (HW.later hb);clear hb HRu HW HB;obtain ⟨k0,k1,k2,k3,k4,k5,k6⟩:=HB2.s.cl;go_wp2_with fail;refine (HEx _ HW2.rv).mono ?_;rintro e w4 ⟨i4,d4,A4,l4,c4,p4,q4,rfl,hr,hf⟩;have HB4:=hO (HB2.kept (HW2.keep hf));have HW4:=hO (HW2.call hr hf);have h9:q4≠0:=by rw [HD1.out] at hr;rw [hr.1];exact HD2.out
 have HFin:Hid (p4=plA E z qq.1/\q4=qq.2):=by rw [HD1.out] at hr;exact ⟨hr.2.1,hr.1⟩
 clear hr hf HEx HW2 HB2 k0 k1 k2 k3 k4 k5 k6;obtain ⟨k0,k1,k2,k3,k4,k5,k6⟩:=HB4.s.cl;obtain ⟨f0,f1,f2,f3,f4,f5,f6⟩:=HB4.s.fzs;obtain ⟨v4,hv4⟩:∃w,(((((((w4.setCell ⟨W.heap.size,0,none⟩ (.slice At E.l.length ct)).setCell ⟨W.heap.size,1,none⟩ (.int .i64 i4)).setCell ⟨W.heap.size,2,none⟩ (.int .i64 z)).setCell ⟨W.heap.size,3,none⟩ (.int .i64 d4)).setCell ⟨W.heap.size,4,none⟩ (.slice A4 l4 c4)).setCell ⟨W.heap.size,5,none⟩ (.int .i64 p4)).setCell ⟨W.heap.size,6,none⟩ (.int .i64 q4))=w:=⟨_,rfl⟩;have HBs:Hid (B4 W.heap.size v4 (.slice At E.l.length ct) i4 z d4 (.slice A4 l4 c4) p4 q4 (.slice none 0 0)):=by rw [<-hv4];exact HB4.st _ _ _ _ _ _ _
 have HWs:Hid (WS E z w0 (.slice At E.l.length ct) W 4 (.slice none 0 0) v4 c1 i4 d4 A4 l4 c4 p4 q4):=by rw [<-hv4];exact HW4.st7 (nL _) (by omega) _ _ _ _ _ _ _
 have HEs:=hO hv4;obtain ⟨h0,h1,h2,h3,h4,h5,h6⟩:=HBs.s.cl;obtain ⟨g0,g1,g2,g3,g4,g5,g6⟩:=HBs.s.fzs;clear hv4 HB4 HW4;have HOk:Hid (∀W,Cl 28 #[rdV (.slice At E.l.length ct) i4 z d4 (.slice A4 l4 c4) p4 q4] W (rB W (.bool false))):=fun W=>by
  have:=zaO At E.l.length ct i4 z d4 A4 l4 c4 p4 q4 W;rw [show (q4==0)=false from by simpa using h9] at this;exact this
 clear h9;go_wp2_with (rw [HEs.out])
 clear HEs k0 k1 k2 k3 k4 k5 k6 f0 f1 f2 f3 f4 f5 f6 h0 h1 h2 h3 h4 h5 h6 g0 g1 g2 g3 g4 g5 g6;refine (HOk _).mono ?_;rintro e w5 ⟨rfl,hb⟩;have HB5:=hO (HBs.later hb);have HW5:=hO (HWs.later hb);clear hb HOk HBs HWs;have qg:=HB5.g.cl;have qf:=HB5.g.fz;obtain ⟨k0,k1,k2,k3,k4,k5,k6⟩:=HB5.s.cl;have hs5:=HB5.g.lt;go_wp2_with ((at_builtin;refine wpList_append_lies _ rfl _ _ 22 rfl w0.heap.size 41 i0 (.agg #[.string ⟨#[]⟩,.slice none 0 0]) 2 40 Tryz.underlying22 hinf hz0 hz1 hz2 rfl (by decide) _ _ _ rfl (World.ownsRow_nil _ _ _ _) ⟨w5.heap.size,0,none⟩ 1 1 [.string ⟨#[]⟩,(.slice A4 l4 c4)] rfl rfl ?c1 ?c2 (by decide) ?c3 ?c4 ?c5 (w5.heap.size+1) (by simp) ?_))
 case c1=>exact World.news_of_block (cs:=#[.string ⟨#[]⟩,(.slice A4 l4 c4)]) (t:=41) (fr:=(0,0)) (heap_alloc_new w5 _)
 case c2=>intro u hu;simp only [List.mem_cons,List.not_mem_nil,or_false] at hu;rcases hu with rfl | rfl <;> rfl
 case c3=>unfold maxLen;omega
 case c4=>omega
 case c5=>rw [sA];have:=HLo.out;omega
 intro g3 cap w6 hown hgrow hat hlt3;have hbx:Below w5.heap.size w5 w6:=(zaa w5 _).grown hgrow (by rw [sA];omega) (fun k e=>by cases e);have HB6:=hO (HB5.later hbx);have HW6:=hO (HW5.later hbx);obtain ⟨wR,hwR⟩:∃w,w6.setCell ⟨W.heap.size+3,0,none⟩ (.slice (some ⟨g3,0,none⟩) (0+1) cap)=w:=⟨_,rfl⟩;have HBR:Hid (B4 W.heap.size wR (.slice At E.l.length ct) i4 z d4 (.slice A4 l4 c4) p4 q4 (.slice (some ⟨g3,0,none⟩) (0+1) cap)):=by rw [<-hwR];exact HB6.sg _
 have HWR:Hid (WS E z w0 (.slice At E.l.length ct) W 4 (.slice none 0 0) wR c1 i4 d4 A4 l4 c4 p4 q4):=by rw [<-hwR];exact HW6.set (by omega) (by omega) 0 _
 have HOR:=(show Hid (wR.ownsRow w0.heap.size 41 2 (.slice (some ⟨g3,0,none⟩) (0+1) cap) (0+1) ([]++[.string ⟨#[]⟩,(.slice A4 l4 c4)])) from by
  rw [<-hwR];exact zal hown fun j hj=>bS _ _ _ _ (HB6.g.ne hown (by decide) hj))
 have HER:=hO hwR;have qg6:=HB6.g.cl;have qf6:=HB6.g.fz;clear hbx hown hgrow hat hlt3 HB5 HW5 HB6 HW6 hwR qg qf hs5 k0 k1 k2 k3 k4 k5 k6;go_wp2_with (rw [HER.out])
 clear HER qg6 qf6;have HS:Hid (∀w',Below wR.heap.size wR w'->(w'.cell? ⟨W.heap.size,0,none⟩=some (.slice At E.l.length ct)/\w'.cell? ⟨W.heap.size,1,none⟩=some (.int .i64 i4)/\w'.cell? ⟨W.heap.size,2,none⟩=some (.int .i64 z)/\w'.cell? ⟨W.heap.size,3,none⟩=some (.int .i64 d4)/\w'.cell? ⟨W.heap.size,4,none⟩=some (.slice A4 l4 c4)/\w'.cell? ⟨W.heap.size,5,none⟩=some (.int .i64 p4)/\w'.cell? ⟨W.heap.size,6,none⟩=some (.int .i64 q4))/\(w'.frozen? ⟨W.heap.size+1,0,none⟩=false/\w'.frozen? ⟨W.heap.size+1,1,none⟩=false/\w'.frozen? ⟨W.heap.size+1,2,none⟩=false/\w'.frozen? ⟨W.heap.size+1,3,none⟩=false/\w'.frozen? ⟨W.heap.size+1,4,none⟩=false/\w'.frozen? ⟨W.heap.size+1,5,none⟩=false/\w'.frozen? ⟨W.heap.size+1,6,none⟩=false)/\w'.frozen? ⟨W.heap.size+2,0,none⟩=false/\w'.cell? ⟨W.heap.size+3,0,none⟩=some (.slice (some ⟨g3,0,none⟩) (0+1) cap)):=fun w' hb=>⟨(HBR.later hb).s.cl,(HBR.later hb).r.fzs,(HBR.later hb).o.fz,(HBR.later hb).g.cl⟩
 have HRc:=(show Hid _ from fun w' (hb:Below wR.heap.size wR w')=>(HBR.later hb).r.cl);have HOc:=(show Hid _ from fun w' (hb:Below wR.heap.size wR w')=>(HBR.later hb).o.cl);obtain ⟨⟨k0,k1,k2,k3,k4,k5,k6⟩,⟨f0,f1,f2,f3,f4,f5,f6⟩,fo,cg⟩:=HS wR.drew (bR _ _).drew;obtain ⟨⟨x0,x1,x2,x3,x4,x5,x6⟩,_,_,xg⟩:=HS (wR.alloc (.cells #[.int .i64 z] 3)).drew ((bR _ _).alloc (nL _) _).drew;have HsR:Hid (∀o:Obj,w0.heap.size<=(wR.alloc o).drew.heap.size):=fun o=>by have h1:=HWR.bl.size;show _<=(wR.alloc o).heap.size;rw [sA];omega
 go_region_law (refine step_append_lies _ (by rfl) _ _ _ (by rfl) w0.heap.size 3 i1 (.int .i64 0) 1 8 Tryz.underlying66 hinf1 hy0 hy1 hy2 rfl (by decide) _ _ _ (by rfl) (World.ownsRow_nil _ _ _ _) ⟨wR.drew.heap.size,0,none⟩ 1 1 [.int .i64 z] (by rfl) (by rfl) (cell_one_new _ _ _) (by simp [Value.oneCell']) (by decide) (by decide) (by decide) (HsR.out _) (wR.drew.heap.size+1) (by simp) ?_;intro g4 cap4 w8 hown4 hgrow4 hat4 hlt4;have hb8:Below wR.heap.size wR w8:=((bR _ _).alloc (nL _) _).drew.grown hgrow4 (by show _<=(wR.alloc _).heap.size;rw [sA];exact Nat.le_succ _) (fun k e=>by cases e);obtain ⟨⟨h0,h1,h2,h3,h4,h5,h6⟩,⟨j0,j1,j2,j3,j4,j5,j6⟩,jo,jg⟩:=HS.out w8 hb8;obtain ⟨m0,m1,m2,m3,m4,m5,m6⟩:=HRc.out w8 hb8;have mo:=HOc.out w8 hb8)
 all_goals
  go_wp2_with fail;have hB:=HBR.later hb8;refine zeP (j:=W.heap.size+1) (k:=W.heap.size+2) rfl rfl rfl rfl rfl ((zaH hB.r _ _ _ _ _ _ _).same (bS _ _ _ _ (by show W.heap.size+1≠W.heap.size+2;omega))) ((hB.o.same (zaw _ _ _ _ _ _ _ (by omega))).set _) ?_;exact ⟨_,_,_,_,_,_,_,_,_,by rw [<-HFin.1,<-HFin.2],(zaq (HWR.later hb8).bl (k:=W.heap.size+1) (by have:=HLo.out;omega) _ _ _ _ _ _ _).setCell (p:=⟨W.heap.size+2,0,none⟩) (by have:=HLo.out;show _<=W.heap.size+2;omega) _⟩
theorem zo4 {E:PE} (hE:OkE E) {z:Nat} {w0 W:World} {At:Option Addr} {ct:Nat} (h:DS E w0 W (.slice At E.l.length ct) 0 0 (.slice none 0 0) []) (hr0:ruB E 0=false) (hl0:0<E.l.length) {qq:Nat×Int} (h1:stR 0 [] (gN E 0 0 0)=.inr qq) (h2:qq.2≠0) (h3:alN E=.inr qq):Calls Tryz.prog 27 #[rdV (.slice At E.l.length ct) 0 z 0 (.slice none 0 0) 0 0] W fun e W'=>RdD E z w0 (.slice At E.l.length ct) (alN E) e W':=by
 obtain ⟨A',c',e',hc'⟩:=h.tk;obtain ⟨g,hA,hz8,hz9⟩:=hc' 0 hl0
 cases e'
 subst hA;clear hc' hz8 hz9;have hlen:=hE.len;have hz:=hE.z;obtain ⟨i0,hinf,hz0,hz1,hz2⟩:=info_parts Tryz.info41;obtain ⟨i1,hinf1,hy0,hy1,hy2⟩:=info_parts T.Tryz.info3;obtain ⟨c0,hc0⟩:∃s,s=(.inl (0,0,[]):St):=⟨_,rfl⟩;obtain ⟨c1,hc1⟩:∃s,s=stR 0 [] (gN E 0 0 0):=⟨_,rfl⟩;have HLo:Hid (w0.heap.size<=W.heap.size):=h.bl.size;have HRu:Hid (∀W,Rv E z w0 (.slice (some ⟨g,0,none⟩) E.l.length ct) W c0 0 0 none 0 0 0 0->Cl 31 #[rdV (.slice (some ⟨g,0,none⟩) E.l.length ct) 0 z 0 (.slice none 0 0) 0 0] W (rB W (.bool false))):=fun W h=>by
  rw [hc0] at h;have:=zco h.2.2.2.2.2 z 0 0 hz;rw [hr0] at this;exact this
 have HEx:Hid (∀W,Rv E z w0 (.slice (some ⟨g,0,none⟩) E.l.length ct) W c0 0 0 none 0 0 0 0->Cl 51 #[rdV (.slice (some ⟨g,0,none⟩) E.l.length ct) 0 z 0 (.slice none 0 0) 0 0] W fun e W'=>Pu E z w0 (.slice (some ⟨g,0,none⟩) E.l.length ct) W (.slice none 0 0) c0 c1 e W'):=fun W h=>by
  rw [hc0] at h;rw [hc0,hc1];exact (zdC hE (Nat.zero_le _) W _ [] h.2.2.2.2.2 (Nat.zero_le _)).mono fun _ _ hp=>hp.u fun q hq=>by
   have:=(zbx (Nat.zero_le _) (by omega) hq).2;omega
 have HX:=B4.new W (.slice (some ⟨g,0,none⟩) E.l.length ct) 0 z 0 (.slice none 0 0) 0 0;have HB:=hO HX.1;have HW:Hid (WS E z w0 (.slice (some ⟨g,0,none⟩) E.l.length ct) W 4 (.slice none 0 0) ((((W.alloc (rdO (.slice (some ⟨g,0,none⟩) E.l.length ct) 0 z 0 (.slice none 0 0) 0 0)).alloc rdZ).alloc gxZ).alloc gxZ) c0 0 0 none 0 0 0 0):=by
  rw [hc0];exact WS.new (L:=[]) h HX.2.1 HX.2.2
 have HC0:=hO hc0;rw [h3];have HD1:Hid (c1=_):=hc1.trans h1;have HD2:=hO h2;have t0:(0:Int)<(E.l.length:Int):=by omega
 have HL0:=hO hl0;obtain ⟨pl,hpl⟩:∃x,(tkA E 0).fr=x:=⟨_,rfl⟩;have HPl:=hO hpl;clear hpl hl0;clear hc0 hc1 h1 h2 h3 HX h hE hlen hz hr0;go_enter Tryz.func27,Tryz.ntmps27;go_wp2_with fail;generalize (((W.alloc (rdO (.slice (some ⟨g,0,none⟩) E.l.length ct) 0 z 0 (.slice none 0 0) 0 0)).alloc rdZ).alloc gxZ).alloc gxZ=w1 at *;refine (HRu _ HW.rv).mono ?_;rintro e w2 ⟨rfl,hb⟩;have HB2:=hO (HB.later hb);have HW2:=hO (HW.later hb);clear hb HRu HW HB;obtain ⟨k0,k1,k2,k3,k4,k5,k6⟩:=HB2.s.cl;have tk2:w2.cell? ⟨g,2,none⟩=some (.int .i64 pl):=by
  have h9:=HW2.rv;rw [HC0.out] at h9;obtain ⟨A',c',e',hc'⟩:=h9.2.2.2.2.2.tk;obtain ⟨g',hA,_,hr⟩:=hc' 0 HL0.out
  cases e'
  cases hA
  have h8:=hr.c2;rw [HPl.out] at h8
  simpa using h8
 go_wp2_with fail;refine (HEx _ HW2.rv).mono ?_;rintro e w4 ⟨i4,d4,A4,l4,c4,p4,q4,rfl,hr,hf⟩;have HB4:=hO (HB2.kept (HW2.keep hf));have HW4:=hO (HW2.call hr hf);have h9:q4≠0:=by rw [HD1.out] at hr;rw [hr.1];exact HD2.out
 have HFin:Hid (p4=plA E z qq.1/\q4=qq.2):=by rw [HD1.out] at hr;exact ⟨hr.2.1,hr.1⟩
 clear hr hf HEx HW2 HB2 k0 k1 k2 k3 k4 k5 k6 tk2;obtain ⟨k0,k1,k2,k3,k4,k5,k6⟩:=HB4.s.cl;obtain ⟨f0,f1,f2,f3,f4,f5,f6⟩:=HB4.s.fzs;obtain ⟨v4,hv4⟩:∃w,(((((((w4.setCell ⟨W.heap.size,0,none⟩ (.slice (some ⟨g,0,none⟩) E.l.length ct)).setCell ⟨W.heap.size,1,none⟩ (.int .i64 i4)).setCell ⟨W.heap.size,2,none⟩ (.int .i64 z)).setCell ⟨W.heap.size,3,none⟩ (.int .i64 d4)).setCell ⟨W.heap.size,4,none⟩ (.slice A4 l4 c4)).setCell ⟨W.heap.size,5,none⟩ (.int .i64 p4)).setCell ⟨W.heap.size,6,none⟩ (.int .i64 q4))=w:=⟨_,rfl⟩;have HBs:Hid (B4 W.heap.size v4 (.slice (some ⟨g,0,none⟩) E.l.length ct) i4 z d4 (.slice A4 l4 c4) p4 q4 (.slice none 0 0)):=by rw [<-hv4];exact HB4.st _ _ _ _ _ _ _
 have HWs:Hid (WS E z w0 (.slice (some ⟨g,0,none⟩) E.l.length ct) W 4 (.slice none 0 0) v4 c1 i4 d4 A4 l4 c4 p4 q4):=by rw [<-hv4];exact HW4.st7 (nL _) (by omega) _ _ _ _ _ _ _
 have HEs:=hO hv4;obtain ⟨h0,h1,h2,h3,h4,h5,h6⟩:=HBs.s.cl;obtain ⟨g0,g1,g2,g3,g4,g5,g6⟩:=HBs.s.fzs;clear hv4 HB4 HW4;have HOk:Hid (∀W,Cl 28 #[rdV (.slice (some ⟨g,0,none⟩) E.l.length ct) i4 z d4 (.slice A4 l4 c4) p4 q4] W (rB W (.bool false))):=fun W=>by
  have:=zaO (some ⟨g,0,none⟩) E.l.length ct i4 z d4 A4 l4 c4 p4 q4 W;rw [show (q4==0)=false from by simpa using h9] at this;exact this
 clear h9;go_wp2_with (rw [HEs.out])
 clear HEs k0 k1 k2 k3 k4 k5 k6 f0 f1 f2 f3 f4 f5 f6 h0 h1 h2 h3 h4 h5 h6 g0 g1 g2 g3 g4 g5 g6;refine (HOk _).mono ?_;rintro e w5 ⟨rfl,hb⟩;have HB5:=hO (HBs.later hb);have HW5:=hO (HWs.later hb);clear hb HOk HBs HWs;have qg:=HB5.g.cl;have qf:=HB5.g.fz;obtain ⟨k0,k1,k2,k3,k4,k5,k6⟩:=HB5.s.cl;have hs5:=HB5.g.lt;go_wp2_with ((at_builtin;refine wpList_append_lies _ rfl _ _ 22 rfl w0.heap.size 41 i0 (.agg #[.string ⟨#[]⟩,.slice none 0 0]) 2 40 Tryz.underlying22 hinf hz0 hz1 hz2 rfl (by decide) _ _ _ rfl (World.ownsRow_nil _ _ _ _) ⟨w5.heap.size,0,none⟩ 1 1 [.string ⟨#[]⟩,(.slice A4 l4 c4)] rfl rfl ?c1 ?c2 (by decide) ?c3 ?c4 ?c5 (w5.heap.size+1) (by simp) ?_))
 case c1=>exact World.news_of_block (cs:=#[.string ⟨#[]⟩,(.slice A4 l4 c4)]) (t:=41) (fr:=(0,0)) (heap_alloc_new w5 _)
 case c2=>intro u hu;simp only [List.mem_cons,List.not_mem_nil,or_false] at hu;rcases hu with rfl | rfl <;> rfl
 case c3=>unfold maxLen;omega
 case c4=>omega
 case c5=>rw [sA];have:=HLo.out;omega
 intro g3 cap w6 hown hgrow hat hlt3;have hbx:Below w5.heap.size w5 w6:=(zaa w5 _).grown hgrow (by rw [sA];omega) (fun k e=>by cases e);have HB6:=hO (HB5.later hbx);have HW6:=hO (HW5.later hbx);obtain ⟨wR,hwR⟩:∃w,w6.setCell ⟨W.heap.size+3,0,none⟩ (.slice (some ⟨g3,0,none⟩) (0+1) cap)=w:=⟨_,rfl⟩;have HBR:Hid (B4 W.heap.size wR (.slice (some ⟨g,0,none⟩) E.l.length ct) i4 z d4 (.slice A4 l4 c4) p4 q4 (.slice (some ⟨g3,0,none⟩) (0+1) cap)):=by rw [<-hwR];exact HB6.sg _
 have HWR:Hid (WS E z w0 (.slice (some ⟨g,0,none⟩) E.l.length ct) W 4 (.slice none 0 0) wR c1 i4 d4 A4 l4 c4 p4 q4):=by rw [<-hwR];exact HW6.set (by omega) (by omega) 0 _
 have HOR:=(show Hid (wR.ownsRow w0.heap.size 41 2 (.slice (some ⟨g3,0,none⟩) (0+1) cap) (0+1) ([]++[.string ⟨#[]⟩,(.slice A4 l4 c4)])) from by
  rw [<-hwR];exact zal hown fun j hj=>bS _ _ _ _ (HB6.g.ne hown (by decide) hj))
 have HER:=hO hwR;have qg6:=HB6.g.cl;have qf6:=HB6.g.fz;clear hbx hown hgrow hat hlt3 HB5 HW5 HB6 HW6 hwR qg qf hs5 k0 k1 k2 k3 k4 k5 k6;go_wp2_with (rw [HER.out])
 clear HER qg6 qf6;have HS:Hid (∀w',Below wR.heap.size wR w'->(w'.cell? ⟨W.heap.size,0,none⟩=some (.slice (some ⟨g,0,none⟩) E.l.length ct)/\w'.cell? ⟨W.heap.size,1,none⟩=some (.int .i64 i4)/\w'.cell? ⟨W.heap.size,2,none⟩=some (.int .i64 z)/\w'.cell? ⟨W.heap.size,3,none⟩=some (.int .i64 d4)/\w'.cell? ⟨W.heap.size,4,none⟩=some (.slice A4 l4 c4)/\w'.cell? ⟨W.heap.size,5,none⟩=some (.int .i64 p4)/\w'.cell? ⟨W.heap.size,6,none⟩=some (.int .i64 q4))/\(w'.frozen? ⟨W.heap.size+1,0,none⟩=false/\w'.frozen? ⟨W.heap.size+1,1,none⟩=false/\w'.frozen? ⟨W.heap.size+1,2,none⟩=false/\w'.frozen? ⟨W.heap.size+1,3,none⟩=false/\w'.frozen? ⟨W.heap.size+1,4,none⟩=false/\w'.frozen? ⟨W.heap.size+1,5,none⟩=false/\w'.frozen? ⟨W.heap.size+1,6,none⟩=false)/\w'.frozen? ⟨W.heap.size+2,0,none⟩=false/\w'.cell? ⟨W.heap.size+3,0,none⟩=some (.slice (some ⟨g3,0,none⟩) (0+1) cap)):=fun w' hb=>⟨(HBR.later hb).s.cl,(HBR.later hb).r.fzs,(HBR.later hb).o.fz,(HBR.later hb).g.cl⟩
 have HRc:=(show Hid _ from fun w' (hb:Below wR.heap.size wR w')=>(HBR.later hb).r.cl);have HOc:=(show Hid _ from fun w' (hb:Below wR.heap.size wR w')=>(HBR.later hb).o.cl);obtain ⟨⟨k0,k1,k2,k3,k4,k5,k6⟩,⟨f0,f1,f2,f3,f4,f5,f6⟩,fo,cg⟩:=HS wR.drew (bR _ _).drew;obtain ⟨⟨x0,x1,x2,x3,x4,x5,x6⟩,_,_,xg⟩:=HS (wR.alloc (.cells #[.int .i64 pl] 3)).drew ((bR _ _).alloc (nL _) _).drew;have HsR:Hid (∀o:Obj,w0.heap.size<=(wR.alloc o).drew.heap.size):=fun o=>by have h1:=HWR.bl.size;show _<=(wR.alloc o).heap.size;rw [sA];omega
 go_region_law (refine step_append_lies _ (by rfl) _ _ _ (by rfl) w0.heap.size 3 i1 (.int .i64 0) 1 8 Tryz.underlying66 hinf1 hy0 hy1 hy2 rfl (by decide) _ _ _ (by rfl) (World.ownsRow_nil _ _ _ _) ⟨wR.drew.heap.size,0,none⟩ 1 1 [.int .i64 pl] (by rfl) (by rfl) (cell_one_new _ _ _) (by simp [Value.oneCell']) (by decide) (by decide) (by decide) (HsR.out _) (wR.drew.heap.size+1) (by simp) ?_;intro g4 cap4 w8 hown4 hgrow4 hat4 hlt4;have hb8:Below wR.heap.size wR w8:=((bR _ _).alloc (nL _) _).drew.grown hgrow4 (by show _<=(wR.alloc _).heap.size;rw [sA];exact Nat.le_succ _) (fun k e=>by cases e);obtain ⟨⟨h0,h1,h2,h3,h4,h5,h6⟩,⟨j0,j1,j2,j3,j4,j5,j6⟩,jo,jg⟩:=HS.out w8 hb8;obtain ⟨m0,m1,m2,m3,m4,m5,m6⟩:=HRc.out w8 hb8;have mo:=HOc.out w8 hb8)
 all_goals
  go_wp2_with fail;have hB:=HBR.later hb8;refine zeP (j:=W.heap.size+1) (k:=W.heap.size+2) rfl rfl rfl rfl rfl ((zaH hB.r _ _ _ _ _ _ _).same (bS _ _ _ _ (by show W.heap.size+1≠W.heap.size+2;omega))) ((hB.o.same (zaw _ _ _ _ _ _ _ (by omega))).set _) ?_;exact ⟨_,_,_,_,_,_,_,_,_,by rw [<-HFin.1,<-HFin.2],(zaq (HWR.later hb8).bl (k:=W.heap.size+1) (by have:=HLo.out;omega) _ _ _ _ _ _ _).setCell (p:=⟨W.heap.size+2,0,none⟩) (by have:=HLo.out;show _<=W.heap.size+2;omega) _⟩
theorem zo5 {E:PE} (hE:OkE E) {z:Nat} {w0 W:World} {At:Option Addr} {ct:Nat} (h:DS E w0 W (.slice At E.l.length ct) 0 0 (.slice none 0 0) []) (hr0:ruB E 0=false) (hl0:0<E.l.length) {a:Nat} {ns:List Nd} (h1:stR 0 [] (gN E 0 0 0)=.inl (a,0,ns)) (h2:a<E.l.length) (h3:alN E=.inr (a,60)):Calls Tryz.prog 27 #[rdV (.slice At E.l.length ct) 0 z 0 (.slice none 0 0) 0 0] W fun e W'=>RdD E z w0 (.slice At E.l.length ct) (alN E) e W':=by
 obtain ⟨A',c',e',hc'⟩:=h.tk;obtain ⟨g,hA,hz8,hz9⟩:=hc' 0 hl0
 cases e'
 subst hA;clear hc' hz8 hz9;have hlen:=hE.len;have hz:=hE.z;obtain ⟨i0,hinf,hz0,hz1,hz2⟩:=info_parts Tryz.info41;obtain ⟨i1,hinf1,hy0,hy1,hy2⟩:=info_parts T.Tryz.info3;obtain ⟨c0,hc0⟩:∃s,s=(.inl (0,0,[]):St):=⟨_,rfl⟩;obtain ⟨c1,hc1⟩:∃s,s=stR 0 [] (gN E 0 0 0):=⟨_,rfl⟩;have HLo:Hid (w0.heap.size<=W.heap.size):=h.bl.size;have HRu:Hid (∀W,Rv E z w0 (.slice (some ⟨g,0,none⟩) E.l.length ct) W c0 0 0 none 0 0 0 0->Cl 31 #[rdV (.slice (some ⟨g,0,none⟩) E.l.length ct) 0 z 0 (.slice none 0 0) 0 0] W (rB W (.bool false))):=fun W h=>by
  rw [hc0] at h;have:=zco h.2.2.2.2.2 z 0 0 hz;rw [hr0] at this;exact this
 have HEx:Hid (∀W,Rv E z w0 (.slice (some ⟨g,0,none⟩) E.l.length ct) W c0 0 0 none 0 0 0 0->Cl 51 #[rdV (.slice (some ⟨g,0,none⟩) E.l.length ct) 0 z 0 (.slice none 0 0) 0 0] W fun e W'=>Pu E z w0 (.slice (some ⟨g,0,none⟩) E.l.length ct) W (.slice none 0 0) c0 c1 e W'):=fun W h=>by
  rw [hc0] at h;rw [hc0,hc1];exact (zdC hE (Nat.zero_le _) W _ [] h.2.2.2.2.2 (Nat.zero_le _)).mono fun _ _ hp=>hp.u fun q hq=>by
   have:=(zbx (Nat.zero_le _) (by omega) hq).2;omega
 have HX:=B4.new W (.slice (some ⟨g,0,none⟩) E.l.length ct) 0 z 0 (.slice none 0 0) 0 0;have HB:=hO HX.1;have HW:Hid (WS E z w0 (.slice (some ⟨g,0,none⟩) E.l.length ct) W 4 (.slice none 0 0) ((((W.alloc (rdO (.slice (some ⟨g,0,none⟩) E.l.length ct) 0 z 0 (.slice none 0 0) 0 0)).alloc rdZ).alloc gxZ).alloc gxZ) c0 0 0 none 0 0 0 0):=by
  rw [hc0];exact WS.new (L:=[]) h HX.2.1 HX.2.2
 have HC0:=hO hc0;rw [h3];have HD1:Hid (c1=_):=hc1.trans h1;have HD2:=hO h2;have t0:(0:Int)<(E.l.length:Int):=by omega
 have HL0:=hO hl0;obtain ⟨pl,hpl⟩:∃x,(tkA E 0).fr=x:=⟨_,rfl⟩;have HPl:=hO hpl;clear hpl hl0;clear hc0 hc1 h1 h2 h3 HX h hE hlen hz hr0;go_enter Tryz.func27,Tryz.ntmps27;go_wp2_with fail;generalize (((W.alloc (rdO (.slice (some ⟨g,0,none⟩) E.l.length ct) 0 z 0 (.slice none 0 0) 0 0)).alloc rdZ).alloc gxZ).alloc gxZ=w1 at *;refine (HRu _ HW.rv).mono ?_;rintro e w2 ⟨rfl,hb⟩;have HB2:=hO (HB.later hb);have HW2:=hO (HW.later hb);clear hb HRu HW HB;obtain ⟨k0,k1,k2,k3,k4,k5,k6⟩:=HB2.s.cl;have tk2:w2.cell? ⟨g,2,none⟩=some (.int .i64 pl):=by
  have h9:=HW2.rv;rw [HC0.out] at h9;obtain ⟨A',c',e',hc'⟩:=h9.2.2.2.2.2.tk;obtain ⟨g',hA,_,hr⟩:=hc' 0 HL0.out
  cases e'
  cases hA
  have h8:=hr.c2;rw [HPl.out] at h8
  simpa using h8
 go_wp2_with fail;refine (HEx _ HW2.rv).mono ?_;rintro e w4 ⟨i4,d4,A4,l4,c4,p4,q4,rfl,hr,hf⟩;have HB4:=hO (HB2.kept (HW2.keep hf));have HW4:=hO (HW2.call hr hf);have h9:q4=0/\p4=0/\i4=(a:Int)/\d4=0/\l4=ns.length/\DS E w0 w4 (.slice (some ⟨g,0,none⟩) E.l.length ct) a 0 (.slice A4 l4 c4) ns:=by rw [HD1.out] at hr;exact hr
 obtain ⟨rfl,rfl,rfl,rfl,hz8,hz9⟩:=h9;clear hz8 hz9;clear hr hf HEx HW2 HB2 k0 k1 k2 k3 k4 k5 k6 tk2;obtain ⟨k0,k1,k2,k3,k4,k5,k6⟩:=HB4.s.cl;obtain ⟨f0,f1,f2,f3,f4,f5,f6⟩:=HB4.s.fzs;obtain ⟨v4,hv4⟩:∃w,(((((((w4.setCell ⟨W.heap.size,0,none⟩ (.slice (some ⟨g,0,none⟩) E.l.length ct)).setCell ⟨W.heap.size,1,none⟩ (.int .i64 a)).setCell ⟨W.heap.size,2,none⟩ (.int .i64 z)).setCell ⟨W.heap.size,3,none⟩ (.int .i64 0)).setCell ⟨W.heap.size,4,none⟩ (.slice A4 l4 c4)).setCell ⟨W.heap.size,5,none⟩ (.int .i64 0)).setCell ⟨W.heap.size,6,none⟩ (.int .i64 0))=w:=⟨_,rfl⟩;have HBs:Hid (B4 W.heap.size v4 (.slice (some ⟨g,0,none⟩) E.l.length ct) a z 0 (.slice A4 l4 c4) 0 0 (.slice none 0 0)):=by rw [<-hv4];exact HB4.st _ _ _ _ _ _ _
 have HWs:Hid (WS E z w0 (.slice (some ⟨g,0,none⟩) E.l.length ct) W 4 (.slice none 0 0) v4 c1 a 0 A4 l4 c4 0 0):=by rw [<-hv4];exact HW4.st7 (nL _) (by omega) _ _ _ _ _ _ _
 have HEs:=hO hv4;obtain ⟨h0,h1,h2,h3,h4,h5,h6⟩:=HBs.s.cl;obtain ⟨g0,g1,g2,g3,g4,g5,g6⟩:=HBs.s.fzs;clear hv4 HB4 HW4;have HOk:Hid (∀W,Cl 28 #[rdV (.slice (some ⟨g,0,none⟩) E.l.length ct) a z 0 (.slice A4 l4 c4) 0 0] W (rB W (.bool true))):=fun W=>zaO (some ⟨g,0,none⟩) E.l.length ct a z 0 A4 l4 c4 0 0 W
 go_wp2_with (rw [HEs.out])
 clear HEs k0 k1 k2 k3 k4 k5 k6 f0 f1 f2 f3 f4 f5 f6 h0 h1 h2 h3 h4 h5 h6 g0 g1 g2 g3 g4 g5 g6;refine (HOk _).mono ?_;rintro e w5 ⟨rfl,hb⟩;have HB5:=hO (HBs.later hb);have HW5:=hO (HWs.later hb);clear hb HOk HBs HWs;have HDS:Hid (DS E w0 w5 (.slice (some ⟨g,0,none⟩) E.l.length ct) a 0 (.slice A4 l4 c4) ns):=by have h9:=HW5.rv;rw [HD1.out] at h9;exact h9.2.2.2.2.2
 have hal:(a:Int)<(E.l.length:Int):=by have:=HD2.out;omega
 obtain ⟨pl6,hpl6⟩:∃x,plA E z a=x:=⟨_,rfl⟩;have HFl:Hid (Cl 32 #[rdV (.slice (some ⟨g,0,none⟩) E.l.length ct) a z 0 (.slice A4 l4 c4) 0 0,.int .i64 60] w5 (rB w5 (rdV (.slice (some ⟨g,0,none⟩) E.l.length ct) a z 0 (.slice A4 l4 c4) pl6 60))):=by
  have:=zbB HDS z 0 0 60;rw [hpl6] at this;exact this
 have HP6:=hO hpl6;clear hpl6 HDS;obtain ⟨k0,k1,k2,k3,k4,k5,k6⟩:=HB5.s.cl;go_wp2_with fail;refine HFl.mono ?_;rintro e w6 ⟨rfl,hb⟩;have HB6:=hO (HB5.later hb);have HW6:Hid (WS E z w0 (.slice (some ⟨g,0,none⟩) E.l.length ct) W 4 (.slice none 0 0) w6 (.inr (a,60)) a 0 A4 l4 c4 pl6 60):=by have h8:=(HW5.later hb).bad (a,60) (by show (60:Int)≠0;decide) a 0 A4 l4 c4;rw [show plA E z (a,(60:Int)).1=pl6 from HP6.out] at h8;exact h8
 clear hb HFl HB5 HW5 k0 k1 k2 k3 k4 k5 k6 hal;obtain ⟨k0,k1,k2,k3,k4,k5,k6⟩:=HB6.s.cl;obtain ⟨f0,f1,f2,f3,f4,f5,f6⟩:=HB6.s.fzs;obtain ⟨v6,hv6⟩:∃w,(((((((w6.setCell ⟨W.heap.size,0,none⟩ (.slice (some ⟨g,0,none⟩) E.l.length ct)).setCell ⟨W.heap.size,1,none⟩ (.int .i64 a)).setCell ⟨W.heap.size,2,none⟩ (.int .i64 z)).setCell ⟨W.heap.size,3,none⟩ (.int .i64 0)).setCell ⟨W.heap.size,4,none⟩ (.slice A4 l4 c4)).setCell ⟨W.heap.size,5,none⟩ (.int .i64 pl6)).setCell ⟨W.heap.size,6,none⟩ (.int .i64 60))=w:=⟨_,rfl⟩;have HBs:Hid (B4 W.heap.size v6 (.slice (some ⟨g,0,none⟩) E.l.length ct) a z 0 (.slice A4 l4 c4) pl6 60 (.slice none 0 0)):=by rw [<-hv6];exact HB6.st _ _ _ _ _ _ _
 have HWs:Hid (WS E z w0 (.slice (some ⟨g,0,none⟩) E.l.length ct) W 4 (.slice none 0 0) v6 (.inr (a,60)) a 0 A4 l4 c4 pl6 60):=by rw [<-hv6];exact HW6.st7 (nL _) (by omega) _ _ _ _ _ _ _
 have HEs:=hO hv6;obtain ⟨h0,h1,h2,h3,h4,h5,h6⟩:=HBs.s.cl;obtain ⟨g0,g1,g2,g3,g4,g5,g6⟩:=HBs.s.fzs;clear hv6 HB6 HW6;have HB5:=HBs;have HW5:=HWs;clear HBs HWs;have qg:=HB5.g.cl;have qf:=HB5.g.fz;have hs5:=HB5.g.lt;go_wp2_with (first | rw [HEs.out] | (at_builtin;refine wpList_append_lies _ rfl _ _ 22 rfl w0.heap.size 41 i0 (.agg #[.string ⟨#[]⟩,.slice none 0 0]) 2 40 Tryz.underlying22 hinf hz0 hz1 hz2 rfl (by decide) _ _ _ rfl (World.ownsRow_nil _ _ _ _) ⟨v6.heap.size,0,none⟩ 1 1 [.string ⟨#[]⟩,(.slice A4 l4 c4)] rfl rfl ?c1 ?c2 (by decide) ?c3 ?c4 ?c5 (v6.heap.size+1) (by simp) ?_))
 case c1=>exact World.news_of_block (cs:=#[.string ⟨#[]⟩,(.slice A4 l4 c4)]) (t:=41) (fr:=(0,0)) (heap_alloc_new v6 _)
 case c2=>intro u hu;simp only [List.mem_cons,List.not_mem_nil,or_false] at hu;rcases hu with rfl | rfl <;> rfl
 case c3=>unfold maxLen;omega
 case c4=>omega
 case c5=>rw [sA];have:=HLo.out;omega
 intro g3 cap w6 hown hgrow hat hlt3;have hbx:Below v6.heap.size v6 w6:=(zaa v6 _).grown hgrow (by rw [sA];omega) (fun k e=>by cases e);have HB6:=hO (HB5.later hbx);have HW6:=hO (HW5.later hbx);obtain ⟨wR,hwR⟩:∃w,w6.setCell ⟨W.heap.size+3,0,none⟩ (.slice (some ⟨g3,0,none⟩) (0+1) cap)=w:=⟨_,rfl⟩;have HBR:Hid (B4 W.heap.size wR (.slice (some ⟨g,0,none⟩) E.l.length ct) a z 0 (.slice A4 l4 c4) pl6 60 (.slice (some ⟨g3,0,none⟩) (0+1) cap)):=by rw [<-hwR];exact HB6.sg _
 have HWR:Hid (WS E z w0 (.slice (some ⟨g,0,none⟩) E.l.length ct) W 4 (.slice none 0 0) wR (.inr (a,60)) a 0 A4 l4 c4 pl6 60):=by rw [<-hwR];exact HW6.set (by omega) (by omega) 0 _
 have HOR:=(show Hid (wR.ownsRow w0.heap.size 41 2 (.slice (some ⟨g3,0,none⟩) (0+1) cap) (0+1) ([]++[.string ⟨#[]⟩,(.slice A4 l4 c4)])) from by
  rw [<-hwR];exact zal hown fun j hj=>bS _ _ _ _ (HB6.g.ne hown (by decide) hj))
 have HER:=hO hwR;have qg6:=HB6.g.cl;have qf6:=HB6.g.fz;clear hbx hown hgrow hat hlt3 HB5 HW5 HB6 HW6 hwR qg qf hs5 k0 k1 k2 k3 k4 k5 k6;go_wp2_with (rw [HER.out])
 clear HER qg6 qf6;have HS:Hid (∀w',Below wR.heap.size wR w'->(w'.cell? ⟨W.heap.size,0,none⟩=some (.slice (some ⟨g,0,none⟩) E.l.length ct)/\w'.cell? ⟨W.heap.size,1,none⟩=some (.int .i64 a)/\w'.cell? ⟨W.heap.size,2,none⟩=some (.int .i64 z)/\w'.cell? ⟨W.heap.size,3,none⟩=some (.int .i64 0)/\w'.cell? ⟨W.heap.size,4,none⟩=some (.slice A4 l4 c4)/\w'.cell? ⟨W.heap.size,5,none⟩=some (.int .i64 pl6)/\w'.cell? ⟨W.heap.size,6,none⟩=some (.int .i64 60))/\(w'.frozen? ⟨W.heap.size+1,0,none⟩=false/\w'.frozen? ⟨W.heap.size+1,1,none⟩=false/\w'.frozen? ⟨W.heap.size+1,2,none⟩=false/\w'.frozen? ⟨W.heap.size+1,3,none⟩=false/\w'.frozen? ⟨W.heap.size+1,4,none⟩=false/\w'.frozen? ⟨W.heap.size+1,5,none⟩=false/\w'.frozen? ⟨W.heap.size+1,6,none⟩=false)/\w'.frozen? ⟨W.heap.size+2,0,none⟩=false/\w'.cell? ⟨W.heap.size+3,0,none⟩=some (.slice (some ⟨g3,0,none⟩) (0+1) cap)):=fun w' hb=>⟨(HBR.later hb).s.cl,(HBR.later hb).r.fzs,(HBR.later hb).o.fz,(HBR.later hb).g.cl⟩
 have HRc:=(show Hid _ from fun w' (hb:Below wR.heap.size wR w')=>(HBR.later hb).r.cl);have HOc:=(show Hid _ from fun w' (hb:Below wR.heap.size wR w')=>(HBR.later hb).o.cl);obtain ⟨⟨k0,k1,k2,k3,k4,k5,k6⟩,⟨f0,f1,f2,f3,f4,f5,f6⟩,fo,cg⟩:=HS wR.drew (bR _ _).drew;obtain ⟨⟨x0,x1,x2,x3,x4,x5,x6⟩,_,_,xg⟩:=HS (wR.alloc (.cells #[.int .i64 pl] 3)).drew ((bR _ _).alloc (nL _) _).drew;have HsR:Hid (∀o:Obj,w0.heap.size<=(wR.alloc o).drew.heap.size):=fun o=>by have h1:=HWR.bl.size;show _<=(wR.alloc o).heap.size;rw [sA];omega
 go_region_law (refine step_append_lies _ (by rfl) _ _ _ (by rfl) w0.heap.size 3 i1 (.int .i64 0) 1 8 Tryz.underlying66 hinf1 hy0 hy1 hy2 rfl (by decide) _ _ _ (by rfl) (World.ownsRow_nil _ _ _ _) ⟨wR.drew.heap.size,0,none⟩ 1 1 [.int .i64 pl] (by rfl) (by rfl) (cell_one_new _ _ _) (by simp [Value.oneCell']) (by decide) (by decide) (by decide) (HsR.out _) (wR.drew.heap.size+1) (by simp) ?_;intro g4 cap4 w8 hown4 hgrow4 hat4 hlt4;have hb8:Below wR.heap.size wR w8:=((bR _ _).alloc (nL _) _).drew.grown hgrow4 (by show _<=(wR.alloc _).heap.size;rw [sA];exact Nat.le_succ _) (fun k e=>by cases e);obtain ⟨⟨h0,h1,h2,h3,h4,h5,h6⟩,⟨j0,j1,j2,j3,j4,j5,j6⟩,jo,jg⟩:=HS.out w8 hb8;obtain ⟨m0,m1,m2,m3,m4,m5,m6⟩:=HRc.out w8 hb8;have mo:=HOc.out w8 hb8)
 all_goals
  go_wp2_with fail;have hB:=HBR.later hb8;refine zeP (j:=W.heap.size+1) (k:=W.heap.size+2) rfl rfl rfl rfl rfl ((zaH hB.r _ _ _ _ _ _ _).same (bS _ _ _ _ (by show W.heap.size+1≠W.heap.size+2;omega))) ((hB.o.same (zaw _ _ _ _ _ _ _ (by omega))).set _) ?_;exact ⟨_,_,_,_,_,_,_,_,_,by rw [<-HP6.out],(zaq (HWR.later hb8).bl (k:=W.heap.size+1) (by have:=HLo.out;omega) _ _ _ _ _ _ _).setCell (p:=⟨W.heap.size+2,0,none⟩) (by have:=HLo.out;show _<=W.heap.size+2;omega) _⟩
theorem zo6 {E:PE} (hE:OkE E) {z:Nat} {w0 W:World} {At:Option Addr} {ct:Nat} (h:DS E w0 W (.slice At E.l.length ct) 0 0 (.slice none 0 0) []) (hr0:ruB E 0=false) (hl0:0<E.l.length) {ns:List Nd} (h1:stR 0 [] (gN E 0 0 0)=.inl (E.l.length,0,ns)) (h2:0<E.l.length) (h3:alN E=.inl [(0,⟨#[]⟩,ns)]):Calls Tryz.prog 27 #[rdV (.slice At E.l.length ct) 0 z 0 (.slice none 0 0) 0 0] W fun e W'=>RdD E z w0 (.slice At E.l.length ct) (alN E) e W':=by
 obtain ⟨A',c',e',hc'⟩:=h.tk;obtain ⟨g,hA,hz8,hz9⟩:=hc' 0 hl0
 cases e'
 subst hA;clear hc' hz8 hz9;have hlen:=hE.len;have hz:=hE.z;obtain ⟨i0,hinf,hz0,hz1,hz2⟩:=info_parts Tryz.info41;obtain ⟨i1,hinf1,hy0,hy1,hy2⟩:=info_parts T.Tryz.info3;obtain ⟨c0,hc0⟩:∃s,s=(.inl (0,0,[]):St):=⟨_,rfl⟩;obtain ⟨c1,hc1⟩:∃s,s=stR 0 [] (gN E 0 0 0):=⟨_,rfl⟩;have HLo:Hid (w0.heap.size<=W.heap.size):=h.bl.size;have HRu:Hid (∀W,Rv E z w0 (.slice (some ⟨g,0,none⟩) E.l.length ct) W c0 0 0 none 0 0 0 0->Cl 31 #[rdV (.slice (some ⟨g,0,none⟩) E.l.length ct) 0 z 0 (.slice none 0 0) 0 0] W (rB W (.bool false))):=fun W h=>by
  rw [hc0] at h;have:=zco h.2.2.2.2.2 z 0 0 hz;rw [hr0] at this;exact this
 have HEx:Hid (∀W,Rv E z w0 (.slice (some ⟨g,0,none⟩) E.l.length ct) W c0 0 0 none 0 0 0 0->Cl 51 #[rdV (.slice (some ⟨g,0,none⟩) E.l.length ct) 0 z 0 (.slice none 0 0) 0 0] W fun e W'=>Pu E z w0 (.slice (some ⟨g,0,none⟩) E.l.length ct) W (.slice none 0 0) c0 c1 e W'):=fun W h=>by
  rw [hc0] at h;rw [hc0,hc1];exact (zdC hE (Nat.zero_le _) W _ [] h.2.2.2.2.2 (Nat.zero_le _)).mono fun _ _ hp=>hp.u fun q hq=>by
   have:=(zbx (Nat.zero_le _) (by omega) hq).2;omega
 have HX:=B4.new W (.slice (some ⟨g,0,none⟩) E.l.length ct) 0 z 0 (.slice none 0 0) 0 0;have HB:=hO HX.1;have HW:Hid (WS E z w0 (.slice (some ⟨g,0,none⟩) E.l.length ct) W 4 (.slice none 0 0) ((((W.alloc (rdO (.slice (some ⟨g,0,none⟩) E.l.length ct) 0 z 0 (.slice none 0 0) 0 0)).alloc rdZ).alloc gxZ).alloc gxZ) c0 0 0 none 0 0 0 0):=by
  rw [hc0];exact WS.new (L:=[]) h HX.2.1 HX.2.2
 have HC0:=hO hc0;rw [h3];have HD1:Hid (c1=_):=hc1.trans h1;have HD2:=hO h2;have t0:(0:Int)<(E.l.length:Int):=by omega
 have HL0:=hO hl0;obtain ⟨pl,hpl⟩:∃x,(tkA E 0).fr=x:=⟨_,rfl⟩;have HPl:=hO hpl;clear hpl hl0;clear hc0 hc1 h1 h2 h3 HX h hE hlen hz hr0;go_enter Tryz.func27,Tryz.ntmps27;go_wp2_with fail;generalize (((W.alloc (rdO (.slice (some ⟨g,0,none⟩) E.l.length ct) 0 z 0 (.slice none 0 0) 0 0)).alloc rdZ).alloc gxZ).alloc gxZ=w1 at *;refine (HRu _ HW.rv).mono ?_;rintro e w2 ⟨rfl,hb⟩;have HB2:=hO (HB.later hb);have HW2:=hO (HW.later hb);clear hb HRu HW HB;obtain ⟨k0,k1,k2,k3,k4,k5,k6⟩:=HB2.s.cl;have tk2:w2.cell? ⟨g,2,none⟩=some (.int .i64 pl):=by
  have h9:=HW2.rv;rw [HC0.out] at h9;obtain ⟨A',c',e',hc'⟩:=h9.2.2.2.2.2.tk;obtain ⟨g',hA,_,hr⟩:=hc' 0 HL0.out
  cases e'
  cases hA
  have h8:=hr.c2;rw [HPl.out] at h8
  simpa using h8
 go_wp2_with fail;refine (HEx _ HW2.rv).mono ?_;rintro e w4 ⟨i4,d4,A4,l4,c4,p4,q4,rfl,hr,hf⟩;have HB4:=hO (HB2.kept (HW2.keep hf));have HW4:=hO (HW2.call hr hf);have h9:q4=0/\p4=0/\i4=(E.l.length:Int)/\d4=0/\l4=ns.length/\DS E w0 w4 (.slice (some ⟨g,0,none⟩) E.l.length ct) E.l.length 0 (.slice A4 l4 c4) ns:=by rw [HD1.out] at hr;exact hr
 obtain ⟨rfl,rfl,rfl,rfl,hz8,hz9⟩:=h9;clear hz8 hz9;clear hr hf HEx HW2 HB2 k0 k1 k2 k3 k4 k5 k6 tk2;obtain ⟨k0,k1,k2,k3,k4,k5,k6⟩:=HB4.s.cl;obtain ⟨f0,f1,f2,f3,f4,f5,f6⟩:=HB4.s.fzs;obtain ⟨v4,hv4⟩:∃w,(((((((w4.setCell ⟨W.heap.size,0,none⟩ (.slice (some ⟨g,0,none⟩) E.l.length ct)).setCell ⟨W.heap.size,1,none⟩ (.int .i64 E.l.length)).setCell ⟨W.heap.size,2,none⟩ (.int .i64 z)).setCell ⟨W.heap.size,3,none⟩ (.int .i64 0)).setCell ⟨W.heap.size,4,none⟩ (.slice A4 l4 c4)).setCell ⟨W.heap.size,5,none⟩ (.int .i64 0)).setCell ⟨W.heap.size,6,none⟩ (.int .i64 0))=w:=⟨_,rfl⟩;have HBs:Hid (B4 W.heap.size v4 (.slice (some ⟨g,0,none⟩) E.l.length ct) E.l.length z 0 (.slice A4 l4 c4) 0 0 (.slice none 0 0)):=by rw [<-hv4];exact HB4.st _ _ _ _ _ _ _
 have HWs:Hid (WS E z w0 (.slice (some ⟨g,0,none⟩) E.l.length ct) W 4 (.slice none 0 0) v4 c1 E.l.length 0 A4 l4 c4 0 0):=by rw [<-hv4];exact HW4.st7 (nL _) (by omega) _ _ _ _ _ _ _
 have HEs:=hO hv4;obtain ⟨h0,h1,h2,h3,h4,h5,h6⟩:=HBs.s.cl;obtain ⟨g0,g1,g2,g3,g4,g5,g6⟩:=HBs.s.fzs;clear hv4 HB4 HW4;have HOk:Hid (∀W,Cl 28 #[rdV (.slice (some ⟨g,0,none⟩) E.l.length ct) E.l.length z 0 (.slice A4 l4 c4) 0 0] W (rB W (.bool true))):=fun W=>zaO (some ⟨g,0,none⟩) E.l.length ct E.l.length z 0 A4 l4 c4 0 0 W
 go_wp2_with (rw [HEs.out])
 clear HEs k0 k1 k2 k3 k4 k5 k6 f0 f1 f2 f3 f4 f5 f6 h0 h1 h2 h3 h4 h5 h6 g0 g1 g2 g3 g4 g5 g6;refine (HOk _).mono ?_;rintro e w5 ⟨rfl,hb⟩;have HB5:=hO (HBs.later hb);have HW5:=hO (HWs.later hb);clear hb HOk HBs HWs;have qg:=HB5.g.cl;have qf:=HB5.g.fz;obtain ⟨k0,k1,k2,k3,k4,k5,k6⟩:=HB5.s.cl;have hs5:=HB5.g.lt;go_wp2_with ((at_builtin;refine wpList_append_lies _ rfl _ _ 22 rfl w0.heap.size 41 i0 (.agg #[.string ⟨#[]⟩,.slice none 0 0]) 2 40 Tryz.underlying22 hinf hz0 hz1 hz2 rfl (by decide) _ _ _ rfl (World.ownsRow_nil _ _ _ _) ⟨w5.heap.size,0,none⟩ 1 1 [.string ⟨#[]⟩,(.slice A4 l4 c4)] rfl rfl ?c1 ?c2 (by decide) ?c3 ?c4 ?c5 (w5.heap.size+1) (by simp) ?_))
 case c1=>exact World.news_of_block (cs:=#[.string ⟨#[]⟩,(.slice A4 l4 c4)]) (t:=41) (fr:=(0,0)) (heap_alloc_new w5 _)
 case c2=>intro u hu;simp only [List.mem_cons,List.not_mem_nil,or_false] at hu;rcases hu with rfl | rfl <;> rfl
 case c3=>unfold maxLen;omega
 case c4=>omega
 case c5=>rw [sA];have:=HLo.out;omega
 intro g3 cap w6 hown hgrow hat hlt3;have hbx:Below w5.heap.size w5 w6:=(zaa w5 _).grown hgrow (by rw [sA];omega) (fun k e=>by cases e);have HB6:=hO (HB5.later hbx);rw [HD1.out] at HW5;have HW6:=hO (HW5.later hbx);obtain ⟨wR,hwR⟩:∃w,w6.setCell ⟨W.heap.size+3,0,none⟩ (.slice (some ⟨g3,0,none⟩) (0+1) cap)=w:=⟨_,rfl⟩;have HBR:Hid (B4 W.heap.size wR (.slice (some ⟨g,0,none⟩) E.l.length ct) E.l.length z 0 (.slice A4 l4 c4) 0 0 (.slice (some ⟨g3,0,none⟩) (0+1) cap)):=by rw [<-hwR];exact HB6.sg _
 have HWR:Hid (WS E z w0 (.slice (some ⟨g,0,none⟩) E.l.length ct) W 4 (.slice none 0 0) wR (.inl (E.l.length,0,ns)) E.l.length 0 A4 l4 c4 0 0):=by rw [<-hwR];exact HW6.set (by omega) (by omega) 0 _
 have HOR:=(show Hid (wR.ownsRow w0.heap.size 41 2 (.slice (some ⟨g3,0,none⟩) (0+1) cap) (0+1) ([]++[.string ⟨#[]⟩,(.slice A4 l4 c4)])) from by
  rw [<-hwR];exact zal hown fun j hj=>bS _ _ _ _ (HB6.g.ne hown (by decide) hj))
 have HER:=hO hwR;have qg6:=HB6.g.cl;have qf6:=HB6.g.fz;clear hbx hown hgrow hat hlt3 HB5 HW5 HB6 HW6 hwR qg qf hs5 k0 k1 k2 k3 k4 k5 k6;go_wp2_with (rw [HER.out])
 clear HER qg6 qf6;have HS:Hid (∀w',Below wR.heap.size wR w'->(w'.cell? ⟨W.heap.size,0,none⟩=some (.slice (some ⟨g,0,none⟩) E.l.length ct)/\w'.cell? ⟨W.heap.size,1,none⟩=some (.int .i64 E.l.length)/\w'.cell? ⟨W.heap.size,2,none⟩=some (.int .i64 z)/\w'.cell? ⟨W.heap.size,3,none⟩=some (.int .i64 0)/\w'.cell? ⟨W.heap.size,4,none⟩=some (.slice A4 l4 c4)/\w'.cell? ⟨W.heap.size,5,none⟩=some (.int .i64 0)/\w'.cell? ⟨W.heap.size,6,none⟩=some (.int .i64 0))/\(w'.frozen? ⟨W.heap.size+1,0,none⟩=false/\w'.frozen? ⟨W.heap.size+1,1,none⟩=false/\w'.frozen? ⟨W.heap.size+1,2,none⟩=false/\w'.frozen? ⟨W.heap.size+1,3,none⟩=false/\w'.frozen? ⟨W.heap.size+1,4,none⟩=false/\w'.frozen? ⟨W.heap.size+1,5,none⟩=false/\w'.frozen? ⟨W.heap.size+1,6,none⟩=false)/\w'.frozen? ⟨W.heap.size+2,0,none⟩=false/\w'.cell? ⟨W.heap.size+3,0,none⟩=some (.slice (some ⟨g3,0,none⟩) (0+1) cap)):=fun w' hb=>⟨(HBR.later hb).s.cl,(HBR.later hb).r.fzs,(HBR.later hb).o.fz,(HBR.later hb).g.cl⟩
 have HRc:=(show Hid _ from fun w' (hb:Below wR.heap.size wR w')=>(HBR.later hb).r.cl);have HOc:=(show Hid _ from fun w' (hb:Below wR.heap.size wR w')=>(HBR.later hb).o.cl);obtain ⟨⟨k0,k1,k2,k3,k4,k5,k6⟩,⟨f0,f1,f2,f3,f4,f5,f6⟩,fo,cg⟩:=HS wR.drew (bR _ _).drew;obtain ⟨⟨x0,x1,x2,x3,x4,x5,x6⟩,_,_,xg⟩:=HS (wR.alloc (.cells #[.int .i64 pl] 3)).drew ((bR _ _).alloc (nL _) _).drew;have HsR:Hid (∀o:Obj,w0.heap.size<=(wR.alloc o).drew.heap.size):=fun o=>by have h1:=HWR.bl.size;show _<=(wR.alloc o).heap.size;rw [sA];omega
 go_region_law (refine step_append_lies _ (by rfl) _ _ _ (by rfl) w0.heap.size 3 i1 (.int .i64 0) 1 8 Tryz.underlying66 hinf1 hy0 hy1 hy2 rfl (by decide) _ _ _ (by rfl) (World.ownsRow_nil _ _ _ _) ⟨wR.drew.heap.size,0,none⟩ 1 1 [.int .i64 pl] (by rfl) (by rfl) (cell_one_new _ _ _) (by simp [Value.oneCell']) (by decide) (by decide) (by decide) (HsR.out _) (wR.drew.heap.size+1) (by simp) ?_;intro g4 cap4 w8 hown4 hgrow4 hat4 hlt4;have hb8:Below wR.heap.size wR w8:=((bR _ _).alloc (nL _) _).drew.grown hgrow4 (by show _<=(wR.alloc _).heap.size;rw [sA];exact Nat.le_succ _) (fun k e=>by cases e);obtain ⟨⟨h0,h1,h2,h3,h4,h5,h6⟩,⟨j0,j1,j2,j3,j4,j5,j6⟩,jo,jg⟩:=HS.out w8 hb8;obtain ⟨m0,m1,m2,m3,m4,m5,m6⟩:=HRc.out w8 hb8;have mo:=HOc.out w8 hb8)
 all_goals
  go_wp2_with fail;have hB:=HBR.later hb8;refine zeP (j:=W.heap.size+1) (k:=W.heap.size+2) rfl rfl rfl rfl rfl ((zaH hB.r _ _ _ _ _ _ _).same (bS _ _ _ _ (by show W.heap.size+1≠W.heap.size+2;omega))) ((hB.o.same (zaw _ _ _ _ _ _ _ (by omega))).set _) ?_;have hk:∀j,j≠W.heap.size+1->j≠W.heap.size+2->_:=fun j q1 q2=>(bS (st7 w8 (W.heap.size+1) (.slice (some ⟨g,0,none⟩) E.l.length ct) (.int .i64 E.l.length) (.int .i64 z) (.int .i64 0) (.slice A4 l4 c4) (.int .i64 0) (.int .i64 0)) ⟨W.heap.size+2,0,none⟩ (.slice (some ⟨g3,0,none⟩) (0+1) cap) _ q2).trans (zaw (.slice (some ⟨g,0,none⟩) E.l.length ct) (.int .i64 E.l.length) (.int .i64 z) (.int .i64 0) (.slice A4 l4 c4) (.int .i64 0) (.int .i64 0) q1)
  have hO8:=zi6 HOR hb8;have hD8:=(HWR.later hb8).rv.2.2.2.2.2.o;exact ⟨_,_,_,_,_,_,_,[((0,⟨#[]⟩,ns),(.slice A4 l4 c4))],rfl,rfl,zal hO8 fun j hj=>hk j (hB.r.ne hO8 (by decide) hj) (hB.o.ne hO8 (by decide) hj),⟨fun x hx=>by rw [List.mem_singleton.1 hx];exact zal hD8 fun j hj=>hk j (hB.r.ne hD8 (by decide) hj) (hB.o.ne hD8 (by decide) hj),List.pairwise_singleton _ _⟩,by
   rw [show ([(((0,⟨#[]⟩,ns):Rl),(.slice A4 l4 c4:Value))].map fun x=>Value.int .i64 (plA E z x.1.1))=[]++[.int .i64 pl] from by
    show [Value.int .i64 (plA E z 0)]=[.int .i64 pl]
    rw [show plA E z 0=pl from by unfold plA;rw [iP HL0.out];exact HPl.out]]
   exact zal hown4 fun j hj=>hk j (hB.r.ne hown4 (by decide) hj) (hB.o.ne hown4 (by decide) hj),(zaq (HWR.later hb8).bl (k:=W.heap.size+1) (by have:=HLo.out;omega) _ _ _ _ _ _ _).setCell (p:=⟨W.heap.size+2,0,none⟩) (by have:=HLo.out;show _<=W.heap.size+2;omega) _⟩
theorem zmC {E:PE} (hE:OkE E) {z:Nat} {w0 W:World} {At:Option Addr} {ct:Nat} (h:DS E w0 W (.slice At E.l.length ct) 0 0 (.slice none 0 0) []) (hr0:ruB E 0=false):Calls Tryz.prog 27 #[rdV (.slice At E.l.length ct) 0 z 0 (.slice none 0 0) 0 0] W fun e W'=>RdD E z w0 (.slice At E.l.length ct) (alN E) e W':=by
 have hD:(∃q,stR 0 [] (gN E 0 0 0)=.inr q/\q.2≠0/\alN E=.inr q)∨(∃a ns,stR 0 [] (gN E 0 0 0)=.inl (a,0,ns)/\a<E.l.length/\alN E=.inr (a,60))∨(∃ns,stR 0 [] (gN E 0 0 0)=.inl (E.l.length,0,ns)/\0<E.l.length/\alN E=.inl [(0,⟨#[]⟩,ns)]):=by
  unfold alN;rw [<-znC]
  cases hr:gN E 0 0 0 with
  | inr q =>
   have:=(zbx (Nat.zero_le _) (by omega) hr).2;exact .inl ⟨q,rfl,by omega,rfl⟩
  | inl p =>
   have ha:=zbM (Nat.zero_le _) (by omega) hr;have h3:=ha.2.2 (by omega);by_cases hlt:p.1<E.l.length
   ·exact .inr (.inl ⟨p.1,p.2,rfl,hlt,iP hlt⟩)
   ·have h4:p.1=E.l.length:=by have:=ha.2.1;omega
    exact .inr (.inr ⟨p.2,by rw [<-h4];rfl,by omega,iN hlt⟩)
 rcases hD with ⟨q,h1,h2,h3⟩ | ⟨a,ns,h1,h2,h3⟩ | ⟨ns,h1,h2,h3⟩
 ·by_cases hl0:0<E.l.length
  ·exact zo4 hE h hr0 hl0 h1 h2 h3
  ·exact zmB hE h hr0 hl0 h1 h2 h3
 ·exact zo5 hE h hr0 (by omega) h1 h2 h3
 ·exact zo6 hE h hr0 h2 h1 h2 h3
end Go.Proofs.YtkihfkcmcdiajaaGreatDoor.N
