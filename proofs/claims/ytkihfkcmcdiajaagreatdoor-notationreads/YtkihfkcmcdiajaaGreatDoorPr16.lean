/- DERIVED. Plain mathematics and walks, laid together (16). -/
import Derived.Test.YtkihfkcmcdiajaaGreatDoorPr15
set_option maxRecDepth 100000
set_option maxHeartbeats 8000000
namespace Go.Proofs.YtkihfkcmcdiajaaGreatDoor.R
open Go.RowKit
theorem ch1 {w1 wr wA:World} (h:Below w1.heap.size w1 wr) (hb:Below wr.drew.heap.size wr.drew wA):Below w1.heap.size w1 wA:=h.trans ((zeO hb).mono h.size)
theorem ch2 {w1 wr wA:World} (h:Below w1.heap.size w1 wr) (hb:Below wr.drew.heap.size wr.drew wA) (o:Obj):Below w1.heap.size w1 (wA.alloc o):=(ch1 h hb).alloc (ch1 h hb).size o
theorem ch3 {w1 wr wA w3:World} {row:Option Nat} {o:Obj} (h:Below w1.heap.size w1 wr) (hb:Below wr.drew.heap.size wr.drew wA) (hg:(wA.alloc o).grownBy w3 row) (hr:∀j,row=some j->w1.heap.size<=j):Below w1.heap.size w1 w3:=(ch2 h hb o).grown hg (ch2 h hb o).size hr
theorem AtN.far {w1 wr:World} {v':Value} {L:List Nd} (h:AtN w1 wr w1.heap.size (.slice none 0 0) v' L):∀j,v'.ownBlock=some j->w1.heap.size<=j:=fun j e=>by
 rcases h.k j e with q | q
 ·cases q
 ·exact q
theorem zgm (lo hi:Int) (w:World):Calls Tryz.prog 174 #[.int .i64 lo,.int .i64 hi] w fun e w'=>PnV w w' lo hi e/\Below w.heap.size w w':=by
 obtain ⟨i0,hinf,hz0,hz1,hz2⟩:=info_parts Tryz.info80;have HS:Hid (Cl 186 #[.int .i64 lo,.int .i64 hi] w fun e w'=>ShV w w' lo hi e/\Below w.heap.size w w'):=zhd lo hi w;have HO:=hO (zdx lo hi);have HLn:=hO (zfC lo hi 5);rw [zdt] at HLn;go_enter Tryz.func174,Tryz.ntmps174;go_wp2_with fail;refine HS.mono ?_;rintro e w1 ⟨hsh,hb1⟩;have HB1:=hO hb1;clear hb1 HS
 rcases hsh.err with ⟨c,rfl,hc,hP⟩ | ⟨⟨sv',xs,rfl,hR⟩,hP⟩
 ·have HP:=hO hP
  have ec:(c != 0)=true:=bne_iff_ne.2 hc;clear hsh hP hc;go_wp2
  go_ret2
  exact ⟨HP _ _ _ rfl,HB1.out⟩
 ·have HP:=hO hP
  have HR:=hO hR;clear hsh hP;generalize zcI lo hi=ss at *;have hlx:=hR.len;obtain ⟨A,cs,rfl⟩:∃A cs,sv'=.slice A ss.length cs:=by
   rcases hR.o.2 with ⟨rfl,h0⟩ | ⟨g,cap,cur,rfl,_⟩
   ·exact ⟨none,0,by rw [<-hlx,h0]⟩
   ·exact ⟨_,_,by rw [hlx]⟩
  clear hR hlx;by_cases hn:ss.length=0
  ·have HE:Hid (zgt ss=[(2,0#256)]):=(by show _=_;unfold zgt;rw [iP hn])
   have e0:((ss.length:Int)==0)=true:=by rw [hn];rfl
   have HN:=hO (zhE w1 2);have HB2:Hid (Below w.heap.size w (w1.alloc (.cells (ndZ 2) 51))):=HB1.alloc HB1.size _;have hz1':=HB1.size;clear HO HR HLn hn;generalize ss.length=m at *;go_wp2
   go_ret2
   exact ⟨HP _ _ _ ⟨_,rfl,by rw [HE.out];exact za6 HN hz1'⟩,HB2.out⟩
  ·have HE:Hid (zgt ss=zdG ss ss.length):=(by show _=_;unfold zgt;rw [iN hn])
   have e0:((ss.length:Int)==0)=false:=bF (by omega);have HG:Hid (∀k,k<ss.length->∃s,ss[k]?=some s):=fun k hk=>⟨_,gE hk⟩
   have HPl:Hid (∀k,(zdG ss k).length<=9 * k):=fun k=>zfD ss k fun s hs=>(HO s hs).2.2
   clear hn;go_wp2_with fail;go_loopw [8,9] (fun u t wr=>∃k:Nat,k<=ss.length/\t=.int .i64 k/\Hid (AtN w1 wr w1.heap.size (.slice none 0 0) u (zdG ss k))) (fun _ t _=>ss.length - (intOf t).toNat)
   case atStart=>exact ⟨0,by omega,by go_num,⟨World.ownsRow_nil _ _ _ _,World.grownBy.refl _ _,fun k e=>.inl e⟩⟩
   case round =>
    obtain ⟨i,hi',rfl,HW⟩:=hrel;by_cases hlt:i<ss.length
    ·obtain ⟨s,hs⟩:=HG i hlt
     obtain ⟨g,cap,gx,cx,hA,hgl,_,hcell,hgx,hspl⟩:=HR.get hs
     cases hA
     have HI:Hid (zdG ss (i+1)=(zdG ss i++zcw s s.length)++(if 0<i then [(8,0#256)] else [])):=(by show _=_;rw [zcL];unfold ptI;rw [hs,List.append_assoc]);obtain ⟨ho1,ho2,ho3⟩:=HO s (List.mem_of_getElem? hs);have hplk:=HPl i;have hln:=HLn.out;have z0:(0:Int)<=(i:Int):=by omega
     have z1:(i:Int)<(ss.length:Int):=by omega
     have z9:(ss.length:Int)<=1114112:=by omega
     have HC0:Hid (∀W,Below w1.heap.size w1 W->W.cell? ⟨g,i,none⟩=some (.slice (some ⟨gx,0,none⟩) s.length cx)):=fun W hb=>(hb.cell (p:=⟨g,i,none⟩) hgl).trans hcell
     have HC1:Hid (∀W,Below w1.heap.size w1 W->SpL W gx 0 s):=fun W hb j p hp=>⟨(hb.cell (p:=⟨gx,0+j * 2,none⟩) hgx).trans (hspl j p hp).1,(hb.cell (p:=⟨gx,0+j * 2+1,none⟩) hgx).trans (hspl j p hp).2⟩
     have HGs:Hid (∀k,k<s.length->∃p,s[k]?=some p/\0<=p.1/\p.1<=p.2/\p.2<=255):=fun k hk=>⟨_,gE hk,ho1 _ (List.getElem_mem hk)⟩
     have HN:Hid (∀k p,s[k]?=some p->zcw s (k+1)=zcw s k++((5,spn p.1 p.2)::(if 0<k then [(7,0#256)] else []))):=fun k p hp=>by rw [zcK];unfold ndI;rw [hp]
     have HNl:Hid (∀k,(zcw s k).length<=2 * k):=fun k=>zej s k
     clear hcell hspl ho1 ho2 hs;generalize hP0:zdG ss i=P0 at *;have hP0l:P0.length<=10027008:=by omega
     clear hP0 hplk hln;have e00:P0++zcw s 0=P0:=(by unfold zcw;simp);have HW0:Hid (AtN w1 wr w1.heap.size (.slice none 0 0) u8 (P0++zcw s 0)):=(by rw [e00];exact HW);clear e00;clear HW;go_wp2_with fail;go_loopw [8,10] (fun u t wr2=>∃k:Nat,k<=s.length/\t=.int .i64 k/\Hid (AtN w1 wr2 w1.heap.size (.slice none 0 0) u (P0++zcw s k))) (fun _ t _=>s.length - (intOf t).toNat)
     case atStart=>exact ⟨0,by omega,by go_num,HW0⟩
     case round =>
      obtain ⟨k,hk,rfl,HW⟩:=hrel;clear HW0;have HBw:Hid (Below w1.heap.size w1 wr):=zb3 HW.g;have c0:=HC0 wr HBw.out;by_cases hltk:k<s.length
      ·obtain ⟨⟨p1,p2⟩,hp,b0,b1,b2⟩:=HGs k hltk
       dsimp only at b0 b1 b2;obtain ⟨c1,c2⟩:=HC1 wr HBw k _ hp;dsimp only at c1 c2;rw [Nat.zero_add] at c1 c2;have HN1:=hO (HN k _ hp);have HF:Hid (∀w,Cl 90 #[.int .i64 p1,.int .i64 p2] w (rB w (sv (spn p1 p2)))):=fun w=>zad p1 p2 w b0 b1 b2
       have HSK:=(show Hid (∀W,Below w1.heap.size w1 W->W.cell? ⟨g,i,none⟩=some (.slice (some ⟨gx,0,none⟩) s.length cx)/\W.cell? ⟨gx,k * 2,none⟩=some (.int .i64 p1)/\W.cell? ⟨gx,k * 2+1,none⟩=some (.int .i64 p2)) from fun W hb=>by
        have e:=HC1.out W hb k _ hp;rw [Nat.zero_add] at e;exact ⟨HC0.out W hb,e.1,e.2⟩)
       have hnl:=HNl k;have y0:(0:Int)<=(k:Int):=by omega
       have y1:(k:Int)<(s.length:Int):=by omega
       have y9:(s.length:Int)<=4:=by omega
       dsimp only at HN1;have hMl:(P0++zcw s k).length<=20000000:=by rw [lA];omega
       generalize hM:P0++zcw s k=M at *;have HM:=hO hM;have HFar:=hO HW.far;have hO:=HW.o;have hszw:=HBw.size;clear hM hp hnl;generalize spn p1 p2=x at *;go_wp2_with fail;go_region_held3 (fun w'=>w'.cell? ⟨g,i,none⟩=some (.slice (some ⟨gx,0,none⟩) s.length cx)/\w'.cell? ⟨gx,k * 2,none⟩=some (.int .i64 p1)/\w'.cell? ⟨gx,k * 2+1,none⟩=some (.int .i64 p2))
        (first | go_keep | exact HSK _ (ch1 HBw hbA) | exact HSK _ (ch2 HBw hbA _) | exact HSK _ (ch3 HBw hbA hgrow HFar.out))
        (first | (go_at_call 90;with_reducible refine (HF.out _).mono ?_;rintro e wA ⟨rfl,hbA⟩) | (refine step_append_lies _ (by rfl) _ _ _ (by rfl) w1.heap.size 51 i0 _ 7 64 Tryz.underlying34 hinf hz0 hz1 hz2 rfl (by omega) _ M.length (ndc M) (by rfl) ((zby hO (zeO hbA)).alloc _) ⟨wA.heap.size,0,none⟩ 1 1 (ndV (5,x)) (by rfl) (by rfl) (zdw wA (ndA 5 x)) (zdo _) (by omega) (by unfold maxLen;omega) (by omega) (by simp;exact Nat.le_succ_of_le (ch1 HBw.out hbA).size) (wA.heap.size+1) (by simp) ?_;intro g3 cap3 w3 hown hgrow hat hlt3))
       all_goals
        have HW3:Hid (AtN w1 w3 w1.heap.size (.slice none 0 0) (.slice (some ⟨g3,0,none⟩) (M.length+1) cap3) (M++[(5,x)])):=(HW.below (zeO hbA)).push hown hgrow hat;have hsz3:w1.heap.size<=w3.heap.size:=(zb3 HW3.g).size;clear hown hgrow hat hO HW hbA HBw HFar HSK c0 c1 c2;by_cases hk0:0<k
        ·have z2:(0:Int)<(k:Int):=by omega
         have hO3:=HW3.o;have HN2:Hid (P0++zcw s (k+1)=(M++[(5,x)])++[(7,0#256)]):=(by show _=_;rw [HN1.out,iP hk0,<-HM.out];simp);go_wp2_with (at_builtin;refine wpList_append_lies _ rfl _ _ 34 rfl w1.heap.size 51 i0 (.agg #[.int .i64 0,.int .i64 0,.string ⟨#[]⟩,.int .u64 0,.int .u64 0,.int .u64 0,.int .u64 0]) 7 64 Tryz.underlying34 hinf hz0 hz1 hz2 rfl (by decide) _ _ _ rfl (hO3.alloc _) ⟨w3.heap.size,0,none⟩ 1 1 (ndZ 7).toList rfl rfl (zdw w3 (ndZ 7)) (by rw [zdv];exact zdo _) (by decide) ?c3 ?c4 ?c5 (w3.heap.size+1) (by simp) ?_)
         case c3=>first | (unfold maxLen;omega) | (simp;unfold maxLen;omega)
         case c4=>first | omega | (simp;omega)
         case c5=>simp;omega
         intro g4 cap4 w4 hown hgrow hat hlt4;have HW4:=(show Hid (AtN w1 w4 w1.heap.size (.slice none 0 0) (.slice (some ⟨g4,0,none⟩) (M.length+1+1) cap4) (P0++zcw s (k+1))) from (by
          have e:(M++[(5,x)]).length=M.length+1:=by simp
          rw [HN2.out];have hp:=HW3.push (g:=g4) (cap:=cap4) (n:=(7,0#256)) (by rw [e,<-zdv];exact hown) hgrow hat
          rwa [e] at hp))
         clear hown hgrow hat hO3 HW3;go_wp2
         go_roundw
         case rel=>exact ⟨k+1,by omega,by go_num,HW4⟩
         case measure=>simp [intOf];omega
        ·have hk00:k=0:=by omega
         have HN2:Hid (P0++zcw s (k+1)=M++[(5,x)]):=(by show _=_;rw [HN1.out,iN hk0,<-HM.out];simp);rw [<-HN2.out] at HW3;subst hk00;go_wp2
         go_roundw
         case rel=>exact ⟨0+1,by omega,by go_num,HW3⟩
         case measure=>simp [intOf];omega
      ·obtain rfl:k=s.length:=by omega
       have hnl:=HNl s.length;have hMl:(P0++zcw s s.length).length<=20000000:=by rw [lA];omega
       have hszw:=HBw.size;clear HGs HN HNl HC0 HC1 HBw hnl;generalize hM:P0++zcw s s.length=M at *;clear hM;by_cases hi0:0<i
       ·have z2:(0:Int)<(i:Int):=by omega
        have hO3:=HW.o;have HI2:Hid (zdG ss (i+1)=M++[(8,0#256)]):=(by show _=_;rw [HI.out,iP hi0]);go_wp2_with (at_builtin;refine wpList_append_lies _ rfl _ _ 34 rfl w1.heap.size 51 i0 (.agg #[.int .i64 0,.int .i64 0,.string ⟨#[]⟩,.int .u64 0,.int .u64 0,.int .u64 0,.int .u64 0]) 7 64 Tryz.underlying34 hinf hz0 hz1 hz2 rfl (by decide) _ _ _ rfl (hO3.alloc _) ⟨wr.heap.size,0,none⟩ 1 1 (ndZ 8).toList rfl rfl (zdw wr (ndZ 8)) (by rw [zdv];exact zdo _) (by decide) ?c3 ?c4 ?c5 (wr.heap.size+1) (by simp) ?_)
        case c3=>first | (unfold maxLen;omega) | (simp;unfold maxLen;omega)
        case c4=>first | omega | (simp;omega)
        case c5=>simp;omega
        intro g4 cap4 w4 hown hgrow hat hlt4;have HW4:=(show Hid (AtN w1 w4 w1.heap.size (.slice none 0 0) (.slice (some ⟨g4,0,none⟩) (M.length+1) cap4) (zdG ss (i+1))) from (by
         rw [HI2.out];exact HW.push (n:=(8,0#256)) (by rw [<-zdv];exact hown) hgrow hat))
        clear hown hgrow hat hO3 HW;go_wp2
        go_roundw
        case rel=>exact ⟨i+1,by omega,by go_num,HW4⟩
        case measure=>simp [intOf];omega
       ·have hi00:i=0:=by omega
        have HI2:Hid (zdG ss (i+1)=M):=(by show _=_;rw [HI.out,iN hi0,List.append_nil]);rw [<-HI2.out] at HW;subst hi00;go_wp2
        go_roundw
        case rel=>exact ⟨0+1,by omega,by go_num,HW⟩
        case measure=>simp [intOf];omega
    ·obtain rfl:i=ss.length:=by omega
     have HB3:Hid (Below w.heap.size w wr):=HB1.trans ((zb3 HW.g).mono HB1.size);have hz:=HB1.size;rw [<-HE.out] at HW;clear HG HR HO HPl HE;go_wp2
     go_ret2
     exact ⟨HP _ _ _ ⟨_,rfl,za6 HW.o hz⟩,HB3.out⟩
end Go.Proofs.YtkihfkcmcdiajaaGreatDoor.R
namespace Go.Proofs.YtkihfkcmcdiajaaGreatDoor.N
open Go.RowKit
theorem ba_nil {b:ByteArray} (h:b.size=0):b=⟨#[]⟩:=by
 obtain ⟨d⟩:=b;rw [Array.eq_empty_of_size_eq_zero (show d.size=0 from h)]
theorem lf_one (t:Tk) (hk:t.kd=2∨t.kd=3∨t.kd=28∨t.kd=18∨t.kd=29∨t.kd=30∨t.kd=1):∃n:Nd,n.op≠0/\lfN t=[n]/\((t.kd=2/\t.tx=⟨#[]⟩/\n=nd0 1)∨(t.kd=2/\t.tx.toList.isEmpty=false/\n=⟨4,0,t.tx,0,0,0,0⟩)∨(t.kd=3/\True/\n=⟨5,0,⟨#[]⟩,t.s0,t.s1,t.s2,t.s3⟩)∨(t.kd=28/\True/\n=⟨5,0,⟨#[]⟩,t.s0,t.s1,t.s2,t.s3⟩)∨(t.kd=18/\True/\n=nd0 3)∨(t.kd=29/\True/\n=nd0 1)∨(t.kd=30/\True/\n=nd0 2)∨(t.kd=1/\True/\n=⟨6,0,t.tx,0,0,0,0⟩)):=by
 have one:∀x:Int,x≠0->(nd0 x).op≠0:=fun x h=>h
 rcases hk with q | q | q | q | q | q | q
 ·by_cases ht:t.tx.size=0
  ·exact ⟨nd0 1,one 1 (by decide),by simp [lfN,q,ht],.inl ⟨q,ba_nil ht,rfl⟩⟩
  ·exact ⟨⟨4,0,t.tx,0,0,0,0⟩,by show (4:Int)≠0;decide,by simp [lfN,q,ht],.inr (.inl ⟨q,T.zdP ht,rfl⟩)⟩
 ·exact ⟨_,by show (5:Int)≠0;decide,by simp [lfN,q],.inr (.inr (.inl ⟨q,trivial,rfl⟩))⟩
 ·exact ⟨_,by show (5:Int)≠0;decide,by simp [lfN,q],.inr (.inr (.inr (.inl ⟨q,trivial,rfl⟩)))⟩
 ·exact ⟨_,one 3 (by decide),by simp [lfN,q],.inr (.inr (.inr (.inr (.inl ⟨q,trivial,rfl⟩))))⟩
 ·exact ⟨_,one 1 (by decide),by simp [lfN,q],.inr (.inr (.inr (.inr (.inr (.inl ⟨q,trivial,rfl⟩)))))⟩
 ·exact ⟨_,one 2 (by decide),by simp [lfN,q],.inr (.inr (.inr (.inr (.inr (.inr (.inl ⟨q,trivial,rfl⟩))))))⟩
 ·exact ⟨_,by show (6:Int)≠0;decide,by simp [lfN,q],.inr (.inr (.inr (.inr (.inr (.inr (.inr ⟨q,trivial,rfl⟩))))))⟩
theorem zkL {E:PE} (hE:OkE E) {z:Nat} {w0:World} {tv:Value} {i d:Nat} (hlt:i<E.l.length) (hk:kdA E i=2∨kdA E i=3∨kdA E i=28∨kdA E i=18∨kdA E i=29∨kdA E i=30∨kdA E i=1) (W:World) (v:Value) (L:List Nd) (h:DS E w0 W tv i d v L) (hL:L.length<=10027010 * i):Calls Tryz.prog 157 #[rdV tv i z d v 0 0] W fun e W'=>PoD E z w0 tv d W v L (gN E 5 i d) e W':=by
 have hlen:=hE.len;have hz:=hE.z;have hkt:=zc3 hlt;obtain ⟨B,cB,hv⟩:=zag h.o;subst hv;obtain ⟨At,ct,htv,hc⟩:=h.tk;subst htv;obtain ⟨g,rfl,lg,_⟩:=hc i hlt;clear hc
 suffices Hm:Calls Tryz.prog 157 #[rdV (.slice (some ⟨g,0,none⟩) E.l.length ct) i z d (.slice B L.length cB) 0 0] W fun e W'=>Pu E z w0 (.slice (some ⟨g,0,none⟩) E.l.length ct) W (.slice B L.length cB) (.inl (i+1,d,L)) (stR d L (gN E 5 i d)) e W' from Hm.mono fun _ _ hp=>hp.pod
 obtain ⟨j,hj⟩:∃j,j=i+1:=⟨_,rfl⟩;have u1:IntKind.i64.wrap ((i:Int)+1)=(j:Int):=by rw [wI];omega
 obtain ⟨c0,hc0⟩:∃s,s=(.inl (j,d,L):St):=⟨_,rfl⟩;rw [<-hj,<-hc0];have hq5:∀q,gN E 5 i d=.inr q->q.2≠0:=fun q hq=>by
  have:=(zbx (by omega) (fun _=>hlt) hq).2;omega
 have HX:=BX.new W (.slice (some ⟨g,0,none⟩) E.l.length ct) i z d (.slice B L.length cB) 0 0;obtain ⟨w1,hw1⟩:∃w,(W.alloc (rdO (.slice (some ⟨g,0,none⟩) E.l.length ct) i z d (.slice B L.length cB) 0 0)).alloc rdZ=w:=⟨_,rfl⟩;obtain ⟨w2,hw2⟩:∃w,w1.alloc (tkO (tkA E i))=w:=⟨_,rfl⟩;have sz1:w1.heap.size=W.heap.size+2:=by rw [<-hw1,sA,sA]
 rw [hw1] at HX;have HX1:Hid (BX W.heap.size w1 (.slice (some ⟨g,0,none⟩) E.l.length ct) i z d (.slice B L.length cB) 0 0):=HX.1;have hb2:Below W.heap.size W w2:=by rw [<-hw2];exact HX.2.trans ((zaa _ _).mono HX.2.size)
 have HX2:Hid (BX W.heap.size w2 (.slice (some ⟨g,0,none⟩) E.l.length ct) i z d (.slice B L.length cB) 0 0):=by rw [<-hw2];exact HX.1.later (zaa _ _)
 have HT2:Hid (TX w2 (W.heap.size+2) (tkA E i)):=by rw [<-hw2,<-sz1];exact TX.new w1 _
 have HB:Hid (BX W.heap.size (w2.setCell ⟨W.heap.size,1,none⟩ (.int .i64 j)) (.slice (some ⟨g,0,none⟩) E.l.length ct) j z d (.slice B L.length cB) 0 0):=HX2.s1 j;have HW:Hid (WS E z w0 (.slice (some ⟨g,0,none⟩) E.l.length ct) W 3 (.slice B L.length cB) (w2.setCell ⟨W.heap.size,1,none⟩ (.int .i64 j)) c0 j d B L.length cB 0 0):=by
  rw [hc0];exact (WS.new (h.at (by omega)) hb2 (by rw [<-hw2,sA,sz1];omega)).set (nL _) (by omega) 1 _
 have HE1:=hO hw1;have HE2:=hO hw2;have hr:TR w1 g (i * 9) (tkA E i):=by
  obtain ⟨A',c',e',hc'⟩:=(h.later HX.2).tk;obtain ⟨g',hA,_,hr⟩:=hc' i hlt
  cases e'
  cases hA
  exact hr
 clear hw1 hw2 hb2;have HC0:=hO hc0;have z0:(0:Int)<=(i:Int):=by omega
 have z1:(i:Int)<(E.l.length:Int):=by omega
 have z2:¬(E.l.length:Int)<=(i:Int):=by omega
 rw [<-hkt] at hk;have hV:gN E 5 i d=.inl (j,lfN (tkA E i)):=by
  rw [g5 E i d hlt,show zbu E i=.inl (lfN (tkA E i),1) from by unfold zbu;rw [hE.rn];exact zfH (by omega),hj]
 obtain ⟨n,hn,hl,hcs⟩:=lf_one (tkA E i) hk;rw [hl] at hV;obtain ⟨c1,hc1⟩:∃s,s=stR d L (gN E 5 i d):=⟨_,rfl⟩;rw [<-hc1];have HPu:Hid (∀(W:World) (i d:Int) (A:Option Addr) (l c:Nat) (p q:Int),Rv E z w0 (.slice (some ⟨g,0,none⟩) E.l.length ct) W c0 i d A l c p q->Cl 83 #[rdV (.slice (some ⟨g,0,none⟩) E.l.length ct) i z d (.slice A l c) p q,T.ndG n] W fun e W'=>Pu E z w0 (.slice (some ⟨g,0,none⟩) E.l.length ct) W (.slice A l c) c0 c1 e W'):=fun W i d A l c p q h=>by
  have:=putU h n fun s e=>by
   rw [hc0] at e;obtain rfl:=Sum.inl.inj e
   show L.length+1<=_
   omega
  rw [show c1=zgl n c0 from by rw [hc1,hV,hc0];unfold zgl;rw [iN hn];rfl];exact this
 clear hV hn hl hk hc1;clear HX h hL hE hlt hlen hz hkt hj hc0 lg hq5 z2;generalize tkA E i=t at *;obtain ⟨kd,nn,fr,en,tx,s0,s1,s2,s3⟩:=t;dsimp only at *
 rcases hcs with ⟨rfl,h2,rfl⟩ | ⟨rfl,h2,rfl⟩ | ⟨rfl,h2,rfl⟩ | ⟨rfl,h2,rfl⟩ | ⟨rfl,h2,rfl⟩ | ⟨rfl,h2,rfl⟩ | ⟨rfl,h2,rfl⟩ | ⟨rfl,h2,rfl⟩
 all_goals first | subst h2 | skip
 all_goals
  obtain ⟨a0,a1,a2,a3,a4,a5,a6,a7,a8⟩:=hr;obtain ⟨t0,t1,t2,t3,t4,t5,t6,t7,t8⟩:=HT2.cells;obtain ⟨o0,o1,o2,o3,o4,o5,o6⟩:=HX1.s.cl;obtain ⟨y0,y1,y2,y3,y4,y5,y6⟩:=HX2.s.cl;have yf:=HX2.s.fz 1;dsimp only [tkO] at HE2;go_enter Tryz.func157,Tryz.ntmps157;go_wp2_with (first | rw [HE1.out] | rw [HE2.out])
  refine (HPu _ _ _ _ _ _ _ _ HW.rv).mono ?_;rintro e w2 ⟨i2,d2,A2,l2,c2,p2,q2,rfl,hr,hf⟩;have HB2:=hO (HB.kept (fun j h1 h2=>HW.keep hf j h1 (by omega)));have HW2:=hO (HW.call hr hf);clear hr hf HPu HW HB a0 a1 a2 a3 a4 a5 a6 a7 a8 t0 t1 t2 t3 t4 t5 t6 t7 t8 o0 o1 o2 o3 o4 o5 o6 y0 y1 y2 y3 y4 y5 y6 yf HE1 HE2 HX1 HX2 HT2;obtain ⟨k0,k1,k2,k3,k4,k5,k6⟩:=HB2.r.cl;obtain ⟨f0,f1,f2,f3,f4,f5,f6⟩:=HB2.r.fzs;go_wp2_with fail;refine zaV (s:=2) rfl rfl rfl (zaH HB2.r _ _ _ _ _ _ _) ?_;rw [HC0.out];exact (HW2.st7 (by omega) (by omega) _ _ _ _ _ _ _).pu _
theorem zmq {E:PE} (hE:OkE E) {z:Nat} {w0:World} {tv:Value} {i d:Nat} (hlt:i<E.l.length) (HX0:Cd 51 E z w0 tv (i+1) (d+1) (gN E 0 (i+1) (d+1))) (hk:kdA E i=16∨kdA E i=21∨kdA E i=23∨kdA E i=25) (W:World) (v:Value) (L:List Nd) (h:DS E w0 W tv i d v L) (hL:L.length<=10027010 * i):Calls Tryz.prog 157 #[rdV tv i z d v 0 0] W fun e W'=>PoD E z w0 tv d W v L (gN E 5 i d) e W':=by
 have hlen:=hE.len;have hz:=hE.z;have hkt:=zc3 hlt;obtain ⟨B,cB,hv⟩:=zag h.o;subst hv;obtain ⟨At,ct,htv,hc⟩:=h.tk;subst htv;obtain ⟨g,rfl,lg,_⟩:=hc i hlt;clear hc
 suffices Hm:Calls Tryz.prog 157 #[rdV (.slice (some ⟨g,0,none⟩) E.l.length ct) i z d (.slice B L.length cB) 0 0] W fun e W'=>Pu E z w0 (.slice (some ⟨g,0,none⟩) E.l.length ct) W (.slice B L.length cB) (.inl (i+1,d,L)) (stR d L (gN E 5 i d)) e W' from Hm.mono fun _ _ hp=>hp.pod
 obtain ⟨j,hj⟩:∃j,j=i+1:=⟨_,rfl⟩;have u1:IntKind.i64.wrap ((i:Int)+1)=(j:Int):=by rw [wI];omega
 obtain ⟨c0,hc0⟩:∃s,s=(.inl (j,d,L):St):=⟨_,rfl⟩;rw [<-hj,<-hc0];have hq5:∀q,gN E 5 i d=.inr q->q.2≠0:=fun q hq=>by
  have:=(zbx (by omega) (fun _=>hlt) hq).2;omega
 have HX:=BX.new W (.slice (some ⟨g,0,none⟩) E.l.length ct) i z d (.slice B L.length cB) 0 0;obtain ⟨w1,hw1⟩:∃w,(W.alloc (rdO (.slice (some ⟨g,0,none⟩) E.l.length ct) i z d (.slice B L.length cB) 0 0)).alloc rdZ=w:=⟨_,rfl⟩;obtain ⟨w2,hw2⟩:∃w,w1.alloc (tkO (tkA E i))=w:=⟨_,rfl⟩;have sz1:w1.heap.size=W.heap.size+2:=by rw [<-hw1,sA,sA]
 rw [hw1] at HX;have HX1:Hid (BX W.heap.size w1 (.slice (some ⟨g,0,none⟩) E.l.length ct) i z d (.slice B L.length cB) 0 0):=HX.1;have hb2:Below W.heap.size W w2:=by rw [<-hw2];exact HX.2.trans ((zaa _ _).mono HX.2.size)
 have HX2:Hid (BX W.heap.size w2 (.slice (some ⟨g,0,none⟩) E.l.length ct) i z d (.slice B L.length cB) 0 0):=by rw [<-hw2];exact HX.1.later (zaa _ _)
 have HT2:Hid (TX w2 (W.heap.size+2) (tkA E i)):=by rw [<-hw2,<-sz1];exact TX.new w1 _
 have HB:Hid (BX W.heap.size (w2.setCell ⟨W.heap.size,1,none⟩ (.int .i64 j)) (.slice (some ⟨g,0,none⟩) E.l.length ct) j z d (.slice B L.length cB) 0 0):=HX2.s1 j;have HW:Hid (WS E z w0 (.slice (some ⟨g,0,none⟩) E.l.length ct) W 3 (.slice B L.length cB) (w2.setCell ⟨W.heap.size,1,none⟩ (.int .i64 j)) c0 j d B L.length cB 0 0):=by
  rw [hc0];exact (WS.new (h.at (by omega)) hb2 (by rw [<-hw2,sA,sz1];omega)).set (nL _) (by omega) 1 _
 have HE1:=hO hw1;have HE2:=hO hw2;have hr:TR w1 g (i * 9) (tkA E i):=by
  obtain ⟨A',c',e',hc'⟩:=(h.later HX.2).tk;obtain ⟨g',hA,_,hr⟩:=hc' i hlt
  cases e'
  cases hA
  exact hr
 clear hw1 hw2 hb2;have HC0:=hO hc0;have z0:(0:Int)<=(i:Int):=by omega
 have z1:(i:Int)<(E.l.length:Int):=by omega
 have z2:¬(E.l.length:Int)<=(i:Int):=by omega
 rw [<-hkt] at hk;obtain ⟨cl,n,hcl,hV,hcs⟩:∃(cl:Int) (n:Nd),cl≠0/\gN E 5 i d=(bnd (rW E i d cl) fun a ms=>.inl (a,ms++pnN n))/\(((tkA E i).kd=16/\cl=17/\n=nd0 0)∨((tkA E i).kd=21/\cl=22/\n=⟨19,0,(tkA E i).tx,0,0,0,0⟩)∨((tkA E i).kd=23/\cl=24/\n=nd0 20)∨((tkA E i).kd=25/\cl=26/\n=nd0 21)):=by
  rcases hk with q | q | q | q
  ·exact ⟨17,nd0 0,by decide,zfG hlt (by unfold zbu zbZ;rw [q];rfl),.inl ⟨q,rfl,rfl⟩⟩
  ·exact ⟨22,⟨19,0,(tkA E i).tx,0,0,0,0⟩,by decide,zfG hlt (by unfold zbu zbZ;rw [q];rfl),.inr (.inl ⟨q,rfl,rfl⟩)⟩
  ·exact ⟨24,nd0 20,by decide,zfG hlt (by unfold zbu zbZ;rw [q];rfl),.inr (.inr (.inl ⟨q,rfl,rfl⟩))⟩
  ·exact ⟨26,nd0 21,by decide,zfG hlt (by unfold zbu zbZ;rw [q];rfl),.inr (.inr (.inr ⟨q,rfl,rfl⟩))⟩
 obtain ⟨c1,hc1⟩:∃s,s=stR d L (gN E 5 i d):=⟨_,rfl⟩;rw [<-hc1];have HWi:Hid (∀(W:World) (i d:Int) (A:Option Addr) (l c:Nat) (p q:Int),Rv E z w0 (.slice (some ⟨g,0,none⟩) E.l.length ct) W c0 i d A l c p q->Cl 175 #[rdV (.slice (some ⟨g,0,none⟩) E.l.length ct) i z d (.slice A l c) p q,.int .i64 cl,T.ndG n] W fun e W'=>Pu E z w0 (.slice (some ⟨g,0,none⟩) E.l.length ct) W (.slice A l c) c0 c1 e W'):=fun W i' d' A l c p q h=>by
  rw [hc0] at h;obtain ⟨rfl,rfl,rfl,rfl,rfl,hd⟩:=h;subst hj;rw [hc0,hc1];rw [hV] at hq5 ⊢;exact (zkJ hE cl hcl n hlt HX0 W _ L hd hL).mono fun _ _ hp=>hp.u hq5
 clear hV hcl hk hc1 HX0;clear HX h hL hE hlt hlen hz hkt hj hc0 lg hq5 z2;generalize tkA E i=t at *;obtain ⟨kd,nn,fr,en,tx,s0,s1,s2,s3⟩:=t;dsimp only at *
 rcases hcs with ⟨rfl,rfl,rfl⟩ | ⟨rfl,rfl,rfl⟩ | ⟨rfl,rfl,rfl⟩ | ⟨rfl,rfl,rfl⟩
 all_goals
  obtain ⟨a0,a1,a2,a3,a4,a5,a6,a7,a8⟩:=hr;obtain ⟨t0,t1,t2,t3,t4,t5,t6,t7,t8⟩:=HT2.cells;obtain ⟨o0,o1,o2,o3,o4,o5,o6⟩:=HX1.s.cl;obtain ⟨y0,y1,y2,y3,y4,y5,y6⟩:=HX2.s.cl;have yf:=HX2.s.fz 1;dsimp only [tkO] at HE2;go_enter Tryz.func157,Tryz.ntmps157;go_wp2_with (first | rw [HE1.out] | rw [HE2.out])
  refine (HWi _ _ _ _ _ _ _ _ HW.rv).mono ?_;rintro e w2 ⟨i2,d2,A2,l2,c2,p2,q2,rfl,hr,hf⟩;have HB2:=hO (HB.kept (fun j h1 h2=>HW.keep hf j h1 (by omega)));have HW2:=hO (HW.call hr hf);clear hr hf HWi HW HB a0 a1 a2 a3 a4 a5 a6 a7 a8 t0 t1 t2 t3 t4 t5 t6 t7 t8 o0 o1 o2 o3 o4 o5 o6 y0 y1 y2 y3 y4 y5 y6 yf HE1 HE2 HX1 HX2 HT2;obtain ⟨k0,k1,k2,k3,k4,k5,k6⟩:=HB2.r.cl;obtain ⟨f0,f1,f2,f3,f4,f5,f6⟩:=HB2.r.fzs;go_wp2_with fail;refine zaV (s:=2) rfl rfl rfl (zaH HB2.r _ _ _ _ _ _ _) ?_;rw [HC0.out];exact (HW2.st7 (by omega) (by omega) _ _ _ _ _ _ _).pu _
theorem zmr {E:PE} (hE:OkE E) {z:Nat} {w0:World} {tv:Value} {i d:Nat} (hlt:i<E.l.length) (HX0:Cd 51 E z w0 tv (i+1) (d+1) (gN E 0 (i+1) (d+1))) (hk:kdA E i=19) (W:World) (v:Value) (L:List Nd) (h:DS E w0 W tv i d v L) (hL:L.length<=10027010 * i):Calls Tryz.prog 157 #[rdV tv i z d v 0 0] W fun e W'=>PoD E z w0 tv d W v L (gN E 5 i d) e W':=by
 have hlen:=hE.len;have hz:=hE.z;have hkt:=zc3 hlt;obtain ⟨B,cB,hv⟩:=zag h.o;subst hv;obtain ⟨At,ct,htv,hc⟩:=h.tk;subst htv;obtain ⟨g,rfl,lg,_⟩:=hc i hlt;clear hc
 suffices Hm:Calls Tryz.prog 157 #[rdV (.slice (some ⟨g,0,none⟩) E.l.length ct) i z d (.slice B L.length cB) 0 0] W fun e W'=>Pu E z w0 (.slice (some ⟨g,0,none⟩) E.l.length ct) W (.slice B L.length cB) (.inl (i+1,d,L)) (stR d L (gN E 5 i d)) e W' from Hm.mono fun _ _ hp=>hp.pod
 obtain ⟨j,hj⟩:∃j,j=i+1:=⟨_,rfl⟩;have u1:IntKind.i64.wrap ((i:Int)+1)=(j:Int):=by rw [wI];omega
 obtain ⟨c0,hc0⟩:∃s,s=(.inl (j,d,L):St):=⟨_,rfl⟩;rw [<-hj,<-hc0];have hq5:∀q,gN E 5 i d=.inr q->q.2≠0:=fun q hq=>by
  have:=(zbx (by omega) (fun _=>hlt) hq).2;omega
 have HX:=BX.new W (.slice (some ⟨g,0,none⟩) E.l.length ct) i z d (.slice B L.length cB) 0 0;obtain ⟨w1,hw1⟩:∃w,(W.alloc (rdO (.slice (some ⟨g,0,none⟩) E.l.length ct) i z d (.slice B L.length cB) 0 0)).alloc rdZ=w:=⟨_,rfl⟩;obtain ⟨w2,hw2⟩:∃w,w1.alloc (tkO (tkA E i))=w:=⟨_,rfl⟩;have sz1:w1.heap.size=W.heap.size+2:=by rw [<-hw1,sA,sA]
 rw [hw1] at HX;have HX1:Hid (BX W.heap.size w1 (.slice (some ⟨g,0,none⟩) E.l.length ct) i z d (.slice B L.length cB) 0 0):=HX.1;have hb2:Below W.heap.size W w2:=by rw [<-hw2];exact HX.2.trans ((zaa _ _).mono HX.2.size)
 have HX2:Hid (BX W.heap.size w2 (.slice (some ⟨g,0,none⟩) E.l.length ct) i z d (.slice B L.length cB) 0 0):=by rw [<-hw2];exact HX.1.later (zaa _ _)
 have HT2:Hid (TX w2 (W.heap.size+2) (tkA E i)):=by rw [<-hw2,<-sz1];exact TX.new w1 _
 have HB:Hid (BX W.heap.size (w2.setCell ⟨W.heap.size,1,none⟩ (.int .i64 j)) (.slice (some ⟨g,0,none⟩) E.l.length ct) j z d (.slice B L.length cB) 0 0):=HX2.s1 j;have HW:Hid (WS E z w0 (.slice (some ⟨g,0,none⟩) E.l.length ct) W 3 (.slice B L.length cB) (w2.setCell ⟨W.heap.size,1,none⟩ (.int .i64 j)) c0 j d B L.length cB 0 0):=by
  rw [hc0];exact (WS.new (h.at (by omega)) hb2 (by rw [<-hw2,sA,sz1];omega)).set (nL _) (by omega) 1 _
 have HE1:=hO hw1;have HE2:=hO hw2;have hr:TR w1 g (i * 9) (tkA E i):=by
  obtain ⟨A',c',e',hc'⟩:=(h.later HX.2).tk;obtain ⟨g',hA,_,hr⟩:=hc' i hlt
  cases e'
  cases hA
  exact hr
 clear hw1 hw2 hb2;have HC0:=hO hc0;have z0:(0:Int)<=(i:Int):=by omega
 have z1:(i:Int)<(E.l.length:Int):=by omega
 have z2:¬(E.l.length:Int)<=(i:Int):=by omega
 rw [<-hkt] at hk;have HKd:Hid (∀(W:World) (i2 d2:Int) (A:Option Addr) (l c:Nat) (p q:Int),Rv E z w0 (.slice (some ⟨g,0,none⟩) E.l.length ct) W c0 i2 d2 A l c p q->Cl 53 #[rdV (.slice (some ⟨g,0,none⟩) E.l.length ct) i2 z d2 (.slice A l c) p q,.int .i64 0] W (rB W (.int .i64 (kdA E (i+1))))):=fun W i2 d2 A l c p q h=>by
  rw [hc0] at h;obtain ⟨rfl,rfl,rfl,rfl,rfl,hd⟩:=h;subst hj;exact za3 hd z d 0 0 0 (i+1) (by omega) (by omega) hz
 by_cases h20:kdA E (i+1)=20
 ·have hV:gN E 5 i d=.inl (j+1,[nd0 17]):=by rw [zn3 hlt (by rw [<-hkt];exact hk)];unfold brR;rw [iP h20,hj]
  have hjl:j<E.l.length:=by rw [hj];exact za8 (by omega)
  obtain ⟨c2,hc2⟩:∃s,s=upS c0:=⟨_,rfl⟩;obtain ⟨c1,hc1⟩:∃s,s=stR d L (gN E 5 i d):=⟨_,rfl⟩;rw [<-hc1];have HPu:Hid (∀(W:World) (i d:Int) (A:Option Addr) (l c:Nat) (p q:Int),Rv E z w0 (.slice (some ⟨g,0,none⟩) E.l.length ct) W c2 i d A l c p q->Cl 83 #[rdV (.slice (some ⟨g,0,none⟩) E.l.length ct) i z d (.slice A l c) p q,T.ndG (nd0 17)] W fun e W'=>Pu E z w0 (.slice (some ⟨g,0,none⟩) E.l.length ct) W (.slice A l c) c2 c1 e W'):=fun W i d A l c p q h=>by
   have:=putU h (nd0 17) fun s e=>by
    rw [hc2,hc0] at e;obtain rfl:=Sum.inl.inj e
    show L.length+1<=_
    omega
   rw [show c1=zgl (nd0 17) c2 from by rw [hc1,hV,hc2,hc0];rfl];exact this
  have HU:Hid ((∀s,c0=.inl s->s.1<E.l.length)/\E.l.length<=1000000/\upS c0=c2):=⟨fun s e=>by rw [hc0] at e;obtain rfl:=Sum.inl.inj e;exact hjl,hz,hc2.symm⟩;rw [h20] at HKd;clear hV hc1 HX0 h20 hc2 hjl;clear HX h hL hE hlt hlen hz hkt hj hc0 lg hq5 z2;generalize tkA E i=t at *;obtain ⟨kd,nn,fr,en,tx,s0,s1,s2,s3⟩:=t;dsimp only at *;obtain rfl:=hk;obtain ⟨a0,a1,a2,a3,a4,a5,a6,a7,a8⟩:=hr;obtain ⟨t0,t1,t2,t3,t4,t5,t6,t7,t8⟩:=HT2.cells;obtain ⟨o0,o1,o2,o3,o4,o5,o6⟩:=HX1.s.cl;obtain ⟨y0,y1,y2,y3,y4,y5,y6⟩:=HX2.s.cl;have yf:=HX2.s.fz 1;dsimp only [tkO] at HE2;go_enter Tryz.func157,Tryz.ntmps157;go_wp2_with (first | rw [HE1.out] | rw [HE2.out])
  refine (HKd _ _ _ _ _ _ _ _ HW.rv).mono ?_;rintro e w2 ⟨rfl,hb⟩;have HB2:=hO (HB.later hb);have HW2:=hO (HW.later hb);clear hb HKd HW HB a0 a1 a2 a3 a4 a5 a6 a7 a8 t0 t1 t2 t3 t4 t5 t6 t7 t8 o0 o1 o2 o3 o4 o5 o6 y0 y1 y2 y3 y4 y5 y6 yf HE1 HE2 HX1 HX2 HT2;obtain ⟨k0,k1,k2,k3,k4,k5,k6⟩:=HB2.s.cl;obtain ⟨f0,f1,f2,f3,f4,f5,f6⟩:=HB2.s.fzs;obtain ⟨j3,hj3⟩:∃x,IntKind.i64.wrap ((j:Int)+1)=x:=⟨_,rfl⟩;go_wp2_with fail;have HB3:=hO (HB2.s1 j3);have HW3:=hO ((HW2.set (nL _) (by omega) 1 (.int .i64 j3)).up HU.1 HU.2.1);rw [HU.2.2,hj3] at HW3;clear hj3 HB2 HW2 k0 k1 k2 k3 k4 k5 k6 f0 f1 f2 f3 f4 f5 f6;refine (HPu _ _ _ _ _ _ _ _ HW3.rv).mono ?_;rintro e w4 ⟨i4,d4,A4,l4,c4,p4,q4,rfl,hr,hf⟩;have HB4:=hO (HB3.kept (fun j h1 h2=>HW3.keep hf j h1 (by omega)));have HW4:=hO (HW3.call hr hf);clear hr hf HPu HW3 HB3;obtain ⟨k0,k1,k2,k3,k4,k5,k6⟩:=HB4.r.cl;obtain ⟨f0,f1,f2,f3,f4,f5,f6⟩:=HB4.r.fzs;go_wp2_with fail;refine zaV (s:=2) rfl rfl rfl (zaH HB4.r _ _ _ _ _ _ _) ?_;rw [HC0.out];exact (HW4.st7 (by omega) (by omega) _ _ _ _ _ _ _).pu _
 ·have hV:gN E 5 i d=bnd (rW E i d 20) fun a ms=>.inl (a,ms++pnN (nd0 18)):=by rw [zn3 hlt (by rw [<-hkt];exact hk)];unfold brR;rw [iN h20];rfl
  obtain ⟨c1,hc1⟩:∃s,s=stR d L (gN E 5 i d):=⟨_,rfl⟩;rw [<-hc1];have HWi:Hid (∀(W:World) (i d:Int) (A:Option Addr) (l c:Nat) (p q:Int),Rv E z w0 (.slice (some ⟨g,0,none⟩) E.l.length ct) W c0 i d A l c p q->Cl 175 #[rdV (.slice (some ⟨g,0,none⟩) E.l.length ct) i z d (.slice A l c) p q,.int .i64 20,T.ndG (nd0 18)] W fun e W'=>Pu E z w0 (.slice (some ⟨g,0,none⟩) E.l.length ct) W (.slice A l c) c0 c1 e W'):=fun W i' d' A l c p q h=>by
   rw [hc0] at h;obtain ⟨rfl,rfl,rfl,rfl,rfl,hd⟩:=h;subst hj;rw [hc0,hc1];rw [hV] at hq5 ⊢;exact (zkJ hE 20 (by decide) (nd0 18) hlt HX0 W _ L hd hL).mono fun _ _ hp=>hp.u hq5
  have t20:(kdA E (i+1)==20)=false:=bF h20;generalize kdA E (i+1)=k2 at *;clear hV hc1 HX0 h20;clear HX h hL hE hlt hlen hz hkt hj hc0 lg hq5 z2;generalize tkA E i=t at *;obtain ⟨kd,nn,fr,en,tx,s0,s1,s2,s3⟩:=t;dsimp only at *;obtain rfl:=hk;obtain ⟨a0,a1,a2,a3,a4,a5,a6,a7,a8⟩:=hr;obtain ⟨t0,t1,t2,t3,t4,t5,t6,t7,t8⟩:=HT2.cells;obtain ⟨o0,o1,o2,o3,o4,o5,o6⟩:=HX1.s.cl;obtain ⟨y0,y1,y2,y3,y4,y5,y6⟩:=HX2.s.cl;have yf:=HX2.s.fz 1;dsimp only [tkO] at HE2;go_enter Tryz.func157,Tryz.ntmps157;go_wp2_with (first | rw [HE1.out] | rw [HE2.out])
  refine (HKd _ _ _ _ _ _ _ _ HW.rv).mono ?_;rintro e w2 ⟨rfl,hb⟩;have HB2:=hO (HB.later hb);have HW2:=hO (HW.later hb);clear hb HKd HW HB a0 a1 a2 a3 a4 a5 a6 a7 a8 t0 t1 t2 t3 t4 t5 t6 t7 t8 o0 o1 o2 o3 o4 o5 o6 y0 y1 y2 y3 y4 y5 y6 yf HE1 HE2 HX1 HX2 HT2;obtain ⟨k0,k1,k2',k3,k4,k5,k6⟩:=HB2.s.cl;go_wp2_with fail;refine (HWi _ _ _ _ _ _ _ _ HW2.rv).mono ?_;rintro e w4 ⟨i4,d4,A4,l4,c4,p4,q4,rfl,hr,hf⟩;have HB4:=hO (HB2.kept (fun j h1 h2=>HW2.keep hf j h1 (by omega)));have HW4:=hO (HW2.call hr hf);clear hr hf HWi HW2 HB2 k0 k1 k2' k3 k4 k5 k6;obtain ⟨k0,k1,k2,k3,k4,k5,k6⟩:=HB4.r.cl;obtain ⟨f0,f1,f2,f3,f4,f5,f6⟩:=HB4.r.fzs;go_wp2_with fail;refine zaV (s:=2) rfl rfl rfl (zaH HB4.r _ _ _ _ _ _ _) ?_;rw [HC0.out];exact (HW4.st7 (by omega) (by omega) _ _ _ _ _ _ _).pu _
theorem zms {E:PE} (hE:OkE E) {z:Nat} {w0:World} {tv:Value} {i d:Nat} (hlt:i<E.l.length) (hk:kdA E i=5) (W:World) (v:Value) (L:List Nd) (h:DS E w0 W tv i d v L) (hL:L.length<=10027010 * i):Calls Tryz.prog 157 #[rdV tv i z d v 0 0] W fun e W'=>PoD E z w0 tv d W v L (gN E 5 i d) e W':=by
 have hlen:=hE.len;have hz:=hE.z;have hkt:=zc3 hlt;obtain ⟨B,cB,hv⟩:=zag h.o;subst hv;obtain ⟨At,ct,htv,hc⟩:=h.tk;subst htv;obtain ⟨g,rfl,lg,_⟩:=hc i hlt;clear hc
 suffices Hm:Calls Tryz.prog 157 #[rdV (.slice (some ⟨g,0,none⟩) E.l.length ct) i z d (.slice B L.length cB) 0 0] W fun e W'=>Pu E z w0 (.slice (some ⟨g,0,none⟩) E.l.length ct) W (.slice B L.length cB) (.inl (i+1,d,L)) (stR d L (gN E 5 i d)) e W' from Hm.mono fun _ _ hp=>hp.pod
 obtain ⟨j,hj⟩:∃j,j=i+1:=⟨_,rfl⟩;have u1:IntKind.i64.wrap ((i:Int)+1)=(j:Int):=by rw [wI];omega
 obtain ⟨c0,hc0⟩:∃s,s=(.inl (j,d,L):St):=⟨_,rfl⟩;rw [<-hj,<-hc0];have hq5:∀q,gN E 5 i d=.inr q->q.2≠0:=fun q hq=>by
  have:=(zbx (by omega) (fun _=>hlt) hq).2;omega
 have HX:=BX.new W (.slice (some ⟨g,0,none⟩) E.l.length ct) i z d (.slice B L.length cB) 0 0;obtain ⟨w1,hw1⟩:∃w,(W.alloc (rdO (.slice (some ⟨g,0,none⟩) E.l.length ct) i z d (.slice B L.length cB) 0 0)).alloc rdZ=w:=⟨_,rfl⟩;obtain ⟨w2,hw2⟩:∃w,w1.alloc (tkO (tkA E i))=w:=⟨_,rfl⟩;have sz1:w1.heap.size=W.heap.size+2:=by rw [<-hw1,sA,sA]
 rw [hw1] at HX;have HX1:Hid (BX W.heap.size w1 (.slice (some ⟨g,0,none⟩) E.l.length ct) i z d (.slice B L.length cB) 0 0):=HX.1;have hb2:Below W.heap.size W w2:=by rw [<-hw2];exact HX.2.trans ((zaa _ _).mono HX.2.size)
 have HX2:Hid (BX W.heap.size w2 (.slice (some ⟨g,0,none⟩) E.l.length ct) i z d (.slice B L.length cB) 0 0):=by rw [<-hw2];exact HX.1.later (zaa _ _)
 have HT2:Hid (TX w2 (W.heap.size+2) (tkA E i)):=by rw [<-hw2,<-sz1];exact TX.new w1 _
 have HB:Hid (BX W.heap.size (w2.setCell ⟨W.heap.size,1,none⟩ (.int .i64 j)) (.slice (some ⟨g,0,none⟩) E.l.length ct) j z d (.slice B L.length cB) 0 0):=HX2.s1 j;have HW:Hid (WS E z w0 (.slice (some ⟨g,0,none⟩) E.l.length ct) W 3 (.slice B L.length cB) (w2.setCell ⟨W.heap.size,1,none⟩ (.int .i64 j)) c0 j d B L.length cB 0 0):=by
  rw [hc0];exact (WS.new (h.at (by omega)) hb2 (by rw [<-hw2,sA,sz1];omega)).set (nL _) (by omega) 1 _
 have HE1:=hO hw1;have HE2:=hO hw2;have hr:TR w1 g (i * 9) (tkA E i):=by
  obtain ⟨A',c',e',hc'⟩:=(h.later HX.2).tk;obtain ⟨g',hA,_,hr⟩:=hc' i hlt
  cases e'
  cases hA
  exact hr
 clear hw1 hw2 hb2;have HC0:=hO hc0;have z0:(0:Int)<=(i:Int):=by omega
 have z1:(i:Int)<(E.l.length:Int):=by omega
 have z2:¬(E.l.length:Int)<=(i:Int):=by omega
 rw [<-hkt] at hk;have hmem:tkA E i∈E.l:=by unfold tkA;rw [gE hlt];exact List.getElem_mem hlt
 have hn:=hE.rg _ hmem hk;have hV:gN E 5 i d=.inl (j,lfN (tkA E i)):=by
  rw [g5 E i d hlt,show zbu E i=.inl (lfN (tkA E i),1) from by unfold zbu;rw [hE.rn];exact zfH (by omega),hj]
 have hM:=zjC (tkA E i);have hM2:=zjD (tkA E i);have hl5:lfN (tkA E i)=rnP (tkA E i).nn (tkA E i).s0:=by simp [lfN,hk]
 rw [hl5] at hV hM hM2;have HP:Hid (∀W,Cl 174 #[.int .i64 (tkA E i).nn,.int .i64 (tkA E i).s0] W fun e w'=>(∃v,e=.returned (.tuple #[v,.int .i64 0])/\w'.ownsRow W.heap.size 51 7 v (rnP (tkA E i).nn (tkA E i).s0).length (T.ndc (rnP (tkA E i).nn (tkA E i).s0)))/\Below W.heap.size W w'):=fun W=>by
  refine (R.zgm (tkA E i).nn (tkA E i).s0 W).mono ?_;rintro e w' ⟨h1,h2⟩;refine ⟨?_,h2⟩;unfold R.PnV at h1;rw [iP ⟨by unfold R.bdB;exact decide_eq_true (by omega),by unfold R.bdB;exact decide_eq_true (by omega)⟩,iP hn.2.1] at h1;obtain ⟨v,h3,h4⟩:=h1;exact ⟨v,h3,by unfold rnP;rw [List.length_map,<-zjs];exact h4⟩
 have u2:IntKind.i64.wrap (tkA E i).s0=(tkA E i).s0:=by rw [wI];omega
 generalize rnP (tkA E i).nn (tkA E i).s0=M at *;rw [hV];have HLM:Hid (L.length+M.length<=maxLen/\(L.length+M.length) * 64<=140737488355328):=⟨by unfold maxLen;omega,by omega⟩;obtain ⟨i0,hinf,hz0,hz1,hz2⟩:=info_parts T.Tryz.info43;have HS1:Hid (stR d L (.inl (j,M))=.inl (j,d,L++M)):=rfl;clear hV hmem hn hM2 hl5;have H1:=(show Hid (∀u∈T.ndc M,u.oneCell'=true) from fun u hu=>by
  unfold T.ndc at hu;rw [List.mem_flatMap] at hu;obtain ⟨n,_,hn⟩:=hu;exact T.zdo n u hn)
 clear HX h hL hE hlt hlen hz hkt hj hc0 lg hq5 z2;generalize tkA E i=t at *;obtain ⟨kd,nn,fr,en,tx,s0,s1,s2,s3⟩:=t;dsimp only at *;obtain rfl:=hk;obtain ⟨a0,a1,a2,a3,a4,a5,a6,a7,a8⟩:=hr;obtain ⟨t0,t1,t2,t3,t4,t5,t6,t7,t8⟩:=HT2.cells;obtain ⟨o0,o1,o2,o3,o4,o5,o6⟩:=HX1.s.cl;obtain ⟨y0,y1,y2,y3,y4,y5,y6⟩:=HX2.s.cl;have yf:=HX2.s.fz 1;dsimp only [tkO] at HE2;go_enter Tryz.func157,Tryz.ntmps157;go_wp2_with (first | rw [HE1.out] | rw [HE2.out])
 refine (HP _).mono ?_;rintro e w2 ⟨⟨v,rfl,ho⟩,hb⟩;obtain ⟨q,c,rfl,_,_⟩:=ho.form hM;have HB2:=hO (HB.later hb);have HW2:=hO (HW.later hb);have HQ:Hid (∀j u,(T.ndc M)[j]?=some u->w2.cell? ((⟨q,0,none⟩:Addr).add j)=some u):=ho.cells rfl;have HDS:Hid (DS E w0 w2 (.slice (some ⟨g,0,none⟩) E.l.length ct) j d (.slice B L.length cB) L):=by
  have:=HW2.rv;rw [HC0.out] at this;exact this.2.2.2.2.2
 clear hb ho HP HW HB a0 a1 a2 a3 a4 a5 a6 a7 a8 t0 t1 t2 t3 t4 t5 t6 t7 t8 o0 o1 o2 o3 o4 o5 o6 y0 y1 y2 y3 y4 y5 y6 yf HE1 HE2 HX1 HX2 HT2;obtain ⟨k0,k1,k2,k3,k4,k5,k6⟩:=HB2.s.cl;go_wp2_with (at_builtin;refine wpList_append_lies _ rfl _ _ 34 rfl w0.heap.size 51 i0 _ 7 64 Tryz.underlying34 hinf hz0 hz1 hz2 rfl (by decide) _ _ _ rfl HDS.o ⟨q,0,none⟩ M.length c (T.ndc M) rfl (T.zgA M) HQ.out H1 hM HLM.1 HLM.2 HDS.bl.size _ rfl ?_)
 intro g3 cap w3 hown hgrow hat hlt3;have hf:Fd w2 w3 (.slice B L.length cB) (.slice (some ⟨g3,0,none⟩) (L.length+M.length) cap):=Fd.grow hgrow hat;have hd3:DS E w0 w3 (.slice (some ⟨g,0,none⟩) E.l.length ct) j d (.slice (some ⟨g3,0,none⟩) (L.length+M.length) cap) (L++M):=HDS.grow hgrow (by rw [lA,T.zcf];exact hown);rw [HC0.out] at HW2;have HB3:=hO (HB2.kept (fun j h1 h2=>HW2.keep hf j h1 (by omega)));have HW3:Hid (WS E z w0 (.slice (some ⟨g,0,none⟩) E.l.length ct) W 3 (.slice B L.length cB) w3 (.inl (j,d,L++M)) j d (some ⟨g3,0,none⟩) (L.length+M.length) cap 0 0):=HW2.call ⟨rfl,rfl,rfl,rfl,(lA ..).symm,hd3⟩ hf;clear hf hd3 hown hgrow hat hlt3 HB2 HW2 HQ H1 HDS k0 k1 k2 k3 k4 k5 k6;obtain ⟨k0,k1,k2,k3,k4,k5,k6⟩:=HB3.s.cl;have g4:=HB3.s.fz 4;obtain ⟨m0',m1',m2',m3',m4',m5',m6'⟩:=HB3.r.cl;obtain ⟨f0,f1,f2,f3,f4,f5,f6⟩:=HB3.r.fzs;go_wp2_with fail;have hb4:=HB3.s4 (.slice (some ⟨g3,0,none⟩) (L.length+M.length) cap);refine zaV (s:=2) rfl rfl rfl (zaH hb4.r _ _ _ _ _ _ _) ?_;rw [HC0.out,HS1.out];exact ((HW3.set (nL _) (by omega) 4 _).st7 (by omega) (by omega) _ _ _ _ _ _ _).pu _
theorem zkM {E:PE} (hE:OkE E) {z:Nat} {w0:World} {tv:Value} {i d:Nat} (hb:bgP E i=true) (HX0:Cd 51 E z w0 tv (i+1) (d+1) (gN E 0 (i+1) (d+1))):Cd 157 E z w0 tv i d (gN E 5 i d):=by
 intro W v L h hL;have hlt:=zfe hb;have hbb:=hb;unfold bgP prK at hbb;simp only [Bool.or_eq_true,Bool.and_eq_true,beq_iff_eq] at hbb
 rcases hbb with (((((((((((q | q) | q) | q) | q) | q) | q) | q) | q) | q) | q) | q) | ⟨q,_⟩
 all_goals first | exact zkL hE hlt (by omega) W v L h hL | exact zmq hE hlt HX0 (by omega) W v L h hL | exact zmr hE hlt HX0 q W v L h hL | exact zms hE hlt q W v L h hL
end Go.Proofs.YtkihfkcmcdiajaaGreatDoor.N
namespace Go.Proofs.YtkihfkcmcdiajaaGreatDoor.T
open Go.RowKit
theorem zgn (s:ByteArray) (hs:s.size<=140737488355328) (w:World):Calls Tryz.prog 142 #[.string s] w (rU w (.bool (nmB s))):=by
 by_cases h0:s.size=0
 ·have HE:Hid (nmB s=false):=zfW (fun h=>by have:=h.1;omega)
  have z0:(s.size:Int)<1:=by omega
  clear h0 hs;go_enter Tryz.func142,Tryz.ntmps142;go_wp2_with fail;go_ret
  exact ⟨by rw [HE.out];rfl,rfl⟩
 have z0:¬(s.size:Int)<1:=by omega
 by_cases h1:32<s.size
 ·have HE:Hid (nmB s=false):=zfW (fun h=>by have:=h.2.1;omega)
  have z1:(32:Int)<(s.size:Int):=by omega
  clear h0 hs;go_enter Tryz.func142,Tryz.ntmps142;go_wp2_with fail;go_ret
  exact ⟨by rw [HE.out];rfl,rfl⟩
 have z1:¬(32:Int)<(s.size:Int):=by omega
 have hp:0<s.size:=by omega
 have zp:(0:Int)<(s.size:Int):=by omega
 by_cases hd:(48:Int)<=(s[0].toNat:Int)/\(s[0].toNat:Int)<=57
 ·obtain ⟨d1,d2⟩:=hd
  have HE:Hid (nmB s=false):=zfW (fun h=>by have:=h.2.2.1 hp;unfold dgB at this;rw [decide_eq_true d1,decide_eq_true d2] at this;cases this);go_enter Tryz.func142,Tryz.ntmps142;go_wp2_with fail;go_ret
  exact ⟨by rw [HE.out];rfl,rfl⟩
 have HZ:Hid (dgB (s[0].toNat:Int)=false):=(by
  show dgB _=_
  unfold dgB;by_cases d1:(48:Int)<=(s[0].toNat:Int)
  ·rw [dF (fun d2=>hd ⟨d1,d2⟩),Bool.and_false]
  ·rw [dF d1,Bool.false_and])
 have HN:Hid ((∀(j:Nat) (h:j<s.size),nmC (s[j].toNat:Int)=true)->nmB s=true):=fun h=>nmB_t ⟨hp,by omega,fun _=>HZ.out,h⟩
 have HM:Hid (∀(j:Nat) (h:j<s.size),nmC (s[j].toNat:Int)=false->nmB s=false):=fun j h e=>zfW (fun q=>by have:=q.2.2.2 j h;rw [e] at this;cases this)
 clear HZ;go_enter Tryz.func142,Tryz.ntmps142;by_cases d1:(48:Int)<=(s[0].toNat:Int)
 ·have d2:¬(s[0].toNat:Int)<=57:=fun d2=>hd ⟨d1,d2⟩
  have HX:=hO hd;clear hd HX;go_wp2_with fail;go_loopw [3] (fun t wr=>∃k:Nat,k<=s.size/\t=.int .i64 k/\wr=w/\Hid (∀(j:Nat) (h:j<s.size),j<k->nmC (s[j].toNat:Int)=true)) (fun t _=>s.size - (intOf t).toNat)
  case atStart=>exact ⟨0,by omega,by go_num,rfl,fun j h q=>by omega⟩
  case round =>
   obtain ⟨k,hk,rfl,rfl,HI⟩:=hrel;clear d1 d2;by_cases hlt:k<s.size
   ·have z3:(0:Int)<=(k:Int):=by omega
    have z4:(k:Int)<(s.size:Int):=by omega
    have HC:Hid (nmC (s[k].toNat:Int)=(dgB (s[k].toNat:Int)||ltB (s[k].toNat:Int)||(s[k].toNat:Int)==95)):=rfl;have HG:Hid (nmC (s[k].toNat:Int)=true->∀(j:Nat) (h:j<s.size),j<k+1->nmC (s[j].toNat:Int)=true):=fun e j h q=>by
     by_cases hj:j<k
     ·exact HI j h hj
     ·obtain rfl:j=k:=by omega
      exact e
    have HM2:Hid (nmC (s[k].toNat:Int)=false->nmB s=false):=HM k hlt;clear HI HN HM;by_cases r0:(s[k].toNat:Int)<48
    ·have t0:¬(97:Int)<=(s[k].toNat:Int):=by omega
     have t1:(s[k].toNat:Int)<=122:=by omega
     have t2:¬(65:Int)<=(s[k].toNat:Int):=by omega
     have t3:(s[k].toNat:Int)<=90:=by omega
     have t4:¬(48:Int)<=(s[k].toNat:Int):=by omega
     have t5:(s[k].toNat:Int)<=57:=by omega
     have t6:((s[k].toNat:Int)==95)=false:=bF (by omega);have HV:Hid (nmC (s[k].toNat:Int)=false):=(by show nmC _=_;rw [HC.out];unfold dgB ltB;rw [t6];simp [t0,t1,t2,t3,t4,t5]);have HE:Hid (nmB s=false):=HM2.out HV.out;clear HC HG HM2 HV;go_wp2_with fail;go_ret
     exact ⟨by rw [HE.out];rfl,rfl⟩
    by_cases r1:(s[k].toNat:Int)<58
    ·have t0:¬(97:Int)<=(s[k].toNat:Int):=by omega
     have t1:(s[k].toNat:Int)<=122:=by omega
     have t2:¬(65:Int)<=(s[k].toNat:Int):=by omega
     have t3:(s[k].toNat:Int)<=90:=by omega
     have t4:(48:Int)<=(s[k].toNat:Int):=by omega
     have t5:(s[k].toNat:Int)<=57:=by omega
     have t6:((s[k].toNat:Int)==95)=false:=bF (by omega);have HV:Hid (nmC (s[k].toNat:Int)=true):=(by show nmC _=_;rw [HC.out];unfold dgB ltB;rw [t6];simp [t0,t1,t2,t3,t4,t5]);have HI2:Hid (∀(j:Nat) (h:j<s.size),j<k+1->nmC (s[j].toNat:Int)=true):=HG.out HV.out;clear HC HG HM2 HV;go_wp2_with fail;go_roundw
     case rel=>exact ⟨k+1,by omega,by go_num,trivial,HI2⟩
     case measure=>simp [intOf];omega
    by_cases r2:(s[k].toNat:Int)<65
    ·have t0:¬(97:Int)<=(s[k].toNat:Int):=by omega
     have t1:(s[k].toNat:Int)<=122:=by omega
     have t2:¬(65:Int)<=(s[k].toNat:Int):=by omega
     have t3:(s[k].toNat:Int)<=90:=by omega
     have t4:(48:Int)<=(s[k].toNat:Int):=by omega
     have t5:¬(s[k].toNat:Int)<=57:=by omega
     have t6:((s[k].toNat:Int)==95)=false:=bF (by omega);have HV:Hid (nmC (s[k].toNat:Int)=false):=(by show nmC _=_;rw [HC.out];unfold dgB ltB;rw [t6];simp [t0,t1,t2,t3,t4,t5]);have HE:Hid (nmB s=false):=HM2.out HV.out;clear HC HG HM2 HV;go_wp2_with fail;go_ret
     exact ⟨by rw [HE.out];rfl,rfl⟩
    by_cases r3:(s[k].toNat:Int)<91
    ·have t0:¬(97:Int)<=(s[k].toNat:Int):=by omega
     have t1:(s[k].toNat:Int)<=122:=by omega
     have t2:(65:Int)<=(s[k].toNat:Int):=by omega
     have t3:(s[k].toNat:Int)<=90:=by omega
     have t4:(48:Int)<=(s[k].toNat:Int):=by omega
     have t5:¬(s[k].toNat:Int)<=57:=by omega
     have t6:((s[k].toNat:Int)==95)=false:=bF (by omega);have HV:Hid (nmC (s[k].toNat:Int)=true):=(by show nmC _=_;rw [HC.out];unfold dgB ltB;rw [t6];simp [t0,t1,t2,t3,t4,t5]);have HI2:Hid (∀(j:Nat) (h:j<s.size),j<k+1->nmC (s[j].toNat:Int)=true):=HG.out HV.out;clear HC HG HM2 HV;go_wp2_with fail;go_roundw
     case rel=>exact ⟨k+1,by omega,by go_num,trivial,HI2⟩
     case measure=>simp [intOf];omega
    by_cases r4:(s[k].toNat:Int)<95
    ·have t0:¬(97:Int)<=(s[k].toNat:Int):=by omega
     have t1:(s[k].toNat:Int)<=122:=by omega
     have t2:(65:Int)<=(s[k].toNat:Int):=by omega
     have t3:¬(s[k].toNat:Int)<=90:=by omega
     have t4:(48:Int)<=(s[k].toNat:Int):=by omega
     have t5:¬(s[k].toNat:Int)<=57:=by omega
     have t6:((s[k].toNat:Int)==95)=false:=bF (by omega);have HV:Hid (nmC (s[k].toNat:Int)=false):=(by show nmC _=_;rw [HC.out];unfold dgB ltB;rw [t6];simp [t0,t1,t2,t3,t4,t5]);have HE:Hid (nmB s=false):=HM2.out HV.out;clear HC HG HM2 HV;go_wp2_with fail;go_ret
     exact ⟨by rw [HE.out];rfl,rfl⟩
    by_cases r5:(s[k].toNat:Int)<96
    ·have t0:¬(97:Int)<=(s[k].toNat:Int):=by omega
     have t1:(s[k].toNat:Int)<=122:=by omega
     have t2:(65:Int)<=(s[k].toNat:Int):=by omega
     have t3:¬(s[k].toNat:Int)<=90:=by omega
     have t4:(48:Int)<=(s[k].toNat:Int):=by omega
     have t5:¬(s[k].toNat:Int)<=57:=by omega
     have t6:((s[k].toNat:Int)==95)=true:=beq_iff_eq.2 (by omega);have HV:Hid (nmC (s[k].toNat:Int)=true):=(by show nmC _=_;rw [HC.out];unfold dgB ltB;rw [t6];simp [t0,t1,t2,t3,t4,t5]);have HI2:Hid (∀(j:Nat) (h:j<s.size),j<k+1->nmC (s[j].toNat:Int)=true):=HG.out HV.out;clear HC HG HM2 HV;go_wp2_with fail;go_roundw
     case rel=>exact ⟨k+1,by omega,by go_num,trivial,HI2⟩
     case measure=>simp [intOf];omega
    by_cases r6:(s[k].toNat:Int)<97
    ·have t0:¬(97:Int)<=(s[k].toNat:Int):=by omega
     have t1:(s[k].toNat:Int)<=122:=by omega
     have t2:(65:Int)<=(s[k].toNat:Int):=by omega
     have t3:¬(s[k].toNat:Int)<=90:=by omega
     have t4:(48:Int)<=(s[k].toNat:Int):=by omega
     have t5:¬(s[k].toNat:Int)<=57:=by omega
     have t6:((s[k].toNat:Int)==95)=false:=bF (by omega);have HV:Hid (nmC (s[k].toNat:Int)=false):=(by show nmC _=_;rw [HC.out];unfold dgB ltB;rw [t6];simp [t0,t1,t2,t3,t4,t5]);have HE:Hid (nmB s=false):=HM2.out HV.out;clear HC HG HM2 HV;go_wp2_with fail;go_ret
     exact ⟨by rw [HE.out];rfl,rfl⟩
    by_cases r7:(s[k].toNat:Int)<123
    ·have t0:(97:Int)<=(s[k].toNat:Int):=by omega
     have t1:(s[k].toNat:Int)<=122:=by omega
     have t2:(65:Int)<=(s[k].toNat:Int):=by omega
     have t3:¬(s[k].toNat:Int)<=90:=by omega
     have t4:(48:Int)<=(s[k].toNat:Int):=by omega
     have t5:¬(s[k].toNat:Int)<=57:=by omega
     have t6:((s[k].toNat:Int)==95)=false:=bF (by omega);have HV:Hid (nmC (s[k].toNat:Int)=true):=(by show nmC _=_;rw [HC.out];unfold dgB ltB;rw [t6];simp [t0,t1,t2,t3,t4,t5]);have HI2:Hid (∀(j:Nat) (h:j<s.size),j<k+1->nmC (s[j].toNat:Int)=true):=HG.out HV.out;clear HC HG HM2 HV;go_wp2_with fail;go_roundw
     case rel=>exact ⟨k+1,by omega,by go_num,trivial,HI2⟩
     case measure=>simp [intOf];omega
    have t0:(97:Int)<=(s[k].toNat:Int):=by omega
    have t1:¬(s[k].toNat:Int)<=122:=by omega
    have t2:(65:Int)<=(s[k].toNat:Int):=by omega
    have t3:¬(s[k].toNat:Int)<=90:=by omega
    have t4:(48:Int)<=(s[k].toNat:Int):=by omega
    have t5:¬(s[k].toNat:Int)<=57:=by omega
    have t6:((s[k].toNat:Int)==95)=false:=bF (by omega);have HV:Hid (nmC (s[k].toNat:Int)=false):=(by show nmC _=_;rw [HC.out];unfold dgB ltB;rw [t6];simp [t0,t1,t2,t3,t4,t5]);have HE:Hid (nmB s=false):=HM2.out HV.out;clear HC HG HM2 HV;go_wp2_with fail;go_ret
    exact ⟨by rw [HE.out];rfl,rfl⟩
   ·obtain rfl:k=s.size:=by omega
    have HE:Hid (nmB s=true):=HN (fun j h=>HI j h h);clear HN HM HI;go_wp2_with fail;go_ret
    exact ⟨by rw [HE.out];rfl,rfl⟩
 ·skip
  have HX:=hO hd;clear hd HX;go_wp2_with fail;go_loopw [3] (fun t wr=>∃k:Nat,k<=s.size/\t=.int .i64 k/\wr=w/\Hid (∀(j:Nat) (h:j<s.size),j<k->nmC (s[j].toNat:Int)=true)) (fun t _=>s.size - (intOf t).toNat)
  case atStart=>exact ⟨0,by omega,by go_num,rfl,fun j h q=>by omega⟩
  case round =>
   obtain ⟨k,hk,rfl,rfl,HI⟩:=hrel;clear d1;by_cases hlt:k<s.size
   ·have z3:(0:Int)<=(k:Int):=by omega
    have z4:(k:Int)<(s.size:Int):=by omega
    have HC:Hid (nmC (s[k].toNat:Int)=(dgB (s[k].toNat:Int)||ltB (s[k].toNat:Int)||(s[k].toNat:Int)==95)):=rfl;have HG:Hid (nmC (s[k].toNat:Int)=true->∀(j:Nat) (h:j<s.size),j<k+1->nmC (s[j].toNat:Int)=true):=fun e j h q=>by
     by_cases hj:j<k
     ·exact HI j h hj
     ·obtain rfl:j=k:=by omega
      exact e
    have HM2:Hid (nmC (s[k].toNat:Int)=false->nmB s=false):=HM k hlt;clear HI HN HM;by_cases r0:(s[k].toNat:Int)<48
    ·have t0:¬(97:Int)<=(s[k].toNat:Int):=by omega
     have t1:(s[k].toNat:Int)<=122:=by omega
     have t2:¬(65:Int)<=(s[k].toNat:Int):=by omega
     have t3:(s[k].toNat:Int)<=90:=by omega
     have t4:¬(48:Int)<=(s[k].toNat:Int):=by omega
     have t5:(s[k].toNat:Int)<=57:=by omega
     have t6:((s[k].toNat:Int)==95)=false:=bF (by omega);have HV:Hid (nmC (s[k].toNat:Int)=false):=(by show nmC _=_;rw [HC.out];unfold dgB ltB;rw [t6];simp [t0,t1,t2,t3,t4,t5]);have HE:Hid (nmB s=false):=HM2.out HV.out;clear HC HG HM2 HV;go_wp2_with fail;go_ret
     exact ⟨by rw [HE.out];rfl,rfl⟩
    by_cases r1:(s[k].toNat:Int)<58
    ·have t0:¬(97:Int)<=(s[k].toNat:Int):=by omega
     have t1:(s[k].toNat:Int)<=122:=by omega
     have t2:¬(65:Int)<=(s[k].toNat:Int):=by omega
     have t3:(s[k].toNat:Int)<=90:=by omega
     have t4:(48:Int)<=(s[k].toNat:Int):=by omega
     have t5:(s[k].toNat:Int)<=57:=by omega
     have t6:((s[k].toNat:Int)==95)=false:=bF (by omega);have HV:Hid (nmC (s[k].toNat:Int)=true):=(by show nmC _=_;rw [HC.out];unfold dgB ltB;rw [t6];simp [t0,t1,t2,t3,t4,t5]);have HI2:Hid (∀(j:Nat) (h:j<s.size),j<k+1->nmC (s[j].toNat:Int)=true):=HG.out HV.out;clear HC HG HM2 HV;go_wp2_with fail;go_roundw
     case rel=>exact ⟨k+1,by omega,by go_num,trivial,HI2⟩
     case measure=>simp [intOf];omega
    by_cases r2:(s[k].toNat:Int)<65
    ·have t0:¬(97:Int)<=(s[k].toNat:Int):=by omega
     have t1:(s[k].toNat:Int)<=122:=by omega
     have t2:¬(65:Int)<=(s[k].toNat:Int):=by omega
     have t3:(s[k].toNat:Int)<=90:=by omega
     have t4:(48:Int)<=(s[k].toNat:Int):=by omega
     have t5:¬(s[k].toNat:Int)<=57:=by omega
     have t6:((s[k].toNat:Int)==95)=false:=bF (by omega);have HV:Hid (nmC (s[k].toNat:Int)=false):=(by show nmC _=_;rw [HC.out];unfold dgB ltB;rw [t6];simp [t0,t1,t2,t3,t4,t5]);have HE:Hid (nmB s=false):=HM2.out HV.out;clear HC HG HM2 HV;go_wp2_with fail;go_ret
     exact ⟨by rw [HE.out];rfl,rfl⟩
    by_cases r3:(s[k].toNat:Int)<91
    ·have t0:¬(97:Int)<=(s[k].toNat:Int):=by omega
     have t1:(s[k].toNat:Int)<=122:=by omega
     have t2:(65:Int)<=(s[k].toNat:Int):=by omega
     have t3:(s[k].toNat:Int)<=90:=by omega
     have t4:(48:Int)<=(s[k].toNat:Int):=by omega
     have t5:¬(s[k].toNat:Int)<=57:=by omega
     have t6:((s[k].toNat:Int)==95)=false:=bF (by omega);have HV:Hid (nmC (s[k].toNat:Int)=true):=(by show nmC _=_;rw [HC.out];unfold dgB ltB;rw [t6];simp [t0,t1,t2,t3,t4,t5]);have HI2:Hid (∀(j:Nat) (h:j<s.size),j<k+1->nmC (s[j].toNat:Int)=true):=HG.out HV.out;clear HC HG HM2 HV;go_wp2_with fail;go_roundw
     case rel=>exact ⟨k+1,by omega,by go_num,trivial,HI2⟩
     case measure=>simp [intOf];omega
    by_cases r4:(s[k].toNat:Int)<95
    ·have t0:¬(97:Int)<=(s[k].toNat:Int):=by omega
     have t1:(s[k].toNat:Int)<=122:=by omega
     have t2:(65:Int)<=(s[k].toNat:Int):=by omega
     have t3:¬(s[k].toNat:Int)<=90:=by omega
     have t4:(48:Int)<=(s[k].toNat:Int):=by omega
     have t5:¬(s[k].toNat:Int)<=57:=by omega
     have t6:((s[k].toNat:Int)==95)=false:=bF (by omega);have HV:Hid (nmC (s[k].toNat:Int)=false):=(by show nmC _=_;rw [HC.out];unfold dgB ltB;rw [t6];simp [t0,t1,t2,t3,t4,t5]);have HE:Hid (nmB s=false):=HM2.out HV.out;clear HC HG HM2 HV;go_wp2_with fail;go_ret
     exact ⟨by rw [HE.out];rfl,rfl⟩
    by_cases r5:(s[k].toNat:Int)<96
    ·have t0:¬(97:Int)<=(s[k].toNat:Int):=by omega
     have t1:(s[k].toNat:Int)<=122:=by omega
     have t2:(65:Int)<=(s[k].toNat:Int):=by omega
     have t3:¬(s[k].toNat:Int)<=90:=by omega
     have t4:(48:Int)<=(s[k].toNat:Int):=by omega
     have t5:¬(s[k].toNat:Int)<=57:=by omega
     have t6:((s[k].toNat:Int)==95)=true:=beq_iff_eq.2 (by omega);have HV:Hid (nmC (s[k].toNat:Int)=true):=(by show nmC _=_;rw [HC.out];unfold dgB ltB;rw [t6];simp [t0,t1,t2,t3,t4,t5]);have HI2:Hid (∀(j:Nat) (h:j<s.size),j<k+1->nmC (s[j].toNat:Int)=true):=HG.out HV.out;clear HC HG HM2 HV;go_wp2_with fail;go_roundw
     case rel=>exact ⟨k+1,by omega,by go_num,trivial,HI2⟩
     case measure=>simp [intOf];omega
    by_cases r6:(s[k].toNat:Int)<97
    ·have t0:¬(97:Int)<=(s[k].toNat:Int):=by omega
     have t1:(s[k].toNat:Int)<=122:=by omega
     have t2:(65:Int)<=(s[k].toNat:Int):=by omega
     have t3:¬(s[k].toNat:Int)<=90:=by omega
     have t4:(48:Int)<=(s[k].toNat:Int):=by omega
     have t5:¬(s[k].toNat:Int)<=57:=by omega
     have t6:((s[k].toNat:Int)==95)=false:=bF (by omega);have HV:Hid (nmC (s[k].toNat:Int)=false):=(by show nmC _=_;rw [HC.out];unfold dgB ltB;rw [t6];simp [t0,t1,t2,t3,t4,t5]);have HE:Hid (nmB s=false):=HM2.out HV.out;clear HC HG HM2 HV;go_wp2_with fail;go_ret
     exact ⟨by rw [HE.out];rfl,rfl⟩
    by_cases r7:(s[k].toNat:Int)<123
    ·have t0:(97:Int)<=(s[k].toNat:Int):=by omega
     have t1:(s[k].toNat:Int)<=122:=by omega
     have t2:(65:Int)<=(s[k].toNat:Int):=by omega
     have t3:¬(s[k].toNat:Int)<=90:=by omega
     have t4:(48:Int)<=(s[k].toNat:Int):=by omega
     have t5:¬(s[k].toNat:Int)<=57:=by omega
     have t6:((s[k].toNat:Int)==95)=false:=bF (by omega);have HV:Hid (nmC (s[k].toNat:Int)=true):=(by show nmC _=_;rw [HC.out];unfold dgB ltB;rw [t6];simp [t0,t1,t2,t3,t4,t5]);have HI2:Hid (∀(j:Nat) (h:j<s.size),j<k+1->nmC (s[j].toNat:Int)=true):=HG.out HV.out;clear HC HG HM2 HV;go_wp2_with fail;go_roundw
     case rel=>exact ⟨k+1,by omega,by go_num,trivial,HI2⟩
     case measure=>simp [intOf];omega
    have t0:(97:Int)<=(s[k].toNat:Int):=by omega
    have t1:¬(s[k].toNat:Int)<=122:=by omega
    have t2:(65:Int)<=(s[k].toNat:Int):=by omega
    have t3:¬(s[k].toNat:Int)<=90:=by omega
    have t4:(48:Int)<=(s[k].toNat:Int):=by omega
    have t5:¬(s[k].toNat:Int)<=57:=by omega
    have t6:((s[k].toNat:Int)==95)=false:=bF (by omega);have HV:Hid (nmC (s[k].toNat:Int)=false):=(by show nmC _=_;rw [HC.out];unfold dgB ltB;rw [t6];simp [t0,t1,t2,t3,t4,t5]);have HE:Hid (nmB s=false):=HM2.out HV.out;clear HC HG HM2 HV;go_wp2_with fail;go_ret
    exact ⟨by rw [HE.out];rfl,rfl⟩
   ·obtain rfl:k=s.size:=by omega
    have HE:Hid (nmB s=true):=HN (fun j h=>HI j h h);clear HN HM HI;go_wp2_with fail;go_ret
    exact ⟨by rw [HE.out];rfl,rfl⟩
theorem zdB (s:ByteArray) (hs:s.size<=140737488355328) (w:World):Calls Tryz.prog 143 #[.string s] w (rU w (.bool (tmB s))):=by
 by_cases h1:255<s.size
 ·have HE:Hid (tmB s=false):=(by show tmB s=_;unfold tmB;rw [iN (by omega)])
  have z1:(255:Int)<(s.size:Int):=by omega
  clear hs;go_enter Tryz.func143,Tryz.ntmps143;go_wp2_with fail;go_ret
  exact ⟨by rw [HE.out];rfl,rfl⟩
 have z1:¬(255:Int)<(s.size:Int):=by omega
 have HB:Hid (tmB s=zd9 s s.size 0):=(by show tmB s=_;unfold tmB;rw [iP (by omega)]);go_enter Tryz.func143,Tryz.ntmps143;go_wp2_with fail;go_loopw [3] (fun t wr=>∃k:Nat,k<=s.size/\t=.int .i64 k/\wr=w/\Hid (∃m,s.size<=k+m/\tmB s=zd9 s m k)) (fun t _=>s.size - (intOf t).toNat)
 case atStart=>exact ⟨0,by omega,by go_num,rfl,⟨s.size,by omega,HB.out⟩⟩
 case round =>
  obtain ⟨k,hk,rfl,rfl,HI⟩:=hrel;clear HB;obtain ⟨m,hm,HJ⟩:=HI.out;have HJ:=hO HJ;clear HI;by_cases hlt:k<s.size
  ·have z3:(0:Int)<=(k:Int):=by omega
   have z4:(k:Int)<(s.size:Int):=by omega
   by_cases h37:(s[k].toNat:Int)=37
   ·have e37:((s[k].toNat:Int)==37)=true:=beq_iff_eq.2 h37
    by_cases h2:k+1<s.size
    ·have z5:((k:Int)+1==(s.size:Int))=false:=bF (by omega)
     have z6:(k:Int)+1<(s.size:Int):=by omega
     by_cases g37:(s[k+1].toNat:Int)=37
     ·have f37:((s[k+1].toNat:Int) != 37)=false:=by rw [bne,beq_iff_eq.2 g37];rfl
      have HK:Hid (∃m2,s.size<=k+2+m2/\tmB s=zd9 s m2 (k+2)):=by
       obtain ⟨m2,u,v⟩:=zhv hlt hm h37 h2 (.inl g37);exact ⟨m2,u,HJ.trans v⟩
      clear HJ h37 g37;go_wp2_with fail;go_roundw
      case rel=>exact ⟨k+2,by omega,by go_num,trivial,HK⟩
      case measure=>simp [intOf];omega
     ·have f37:((s[k+1].toNat:Int) != 37)=true:=by rw [bne,bF g37];rfl
      by_cases d1:(s[k+1].toNat:Int)<48
      ·have HE:Hid (tmB s=false):=HJ.trans (zjd hlt hm h37 h2 g37 (by unfold dgB;rw [dF (by omega)];rfl))
       clear HJ h37 g37;go_wp2_with fail;go_ret
       exact ⟨by rw [HE.out];rfl,rfl⟩
      ·by_cases d2:57<(s[k+1].toNat:Int)
       ·have HE:Hid (tmB s=false):=HJ.trans (zjd hlt hm h37 h2 g37 (by unfold dgB;rw [dF (p:=(s[k+1].toNat:Int)<=57) (by omega),Bool.and_false]))
        clear HJ h37 g37;go_wp2_with fail;go_ret
        exact ⟨by rw [HE.out];rfl,rfl⟩
       ·have HK:Hid (∃m2,s.size<=k+2+m2/\tmB s=zd9 s m2 (k+2)):=by
         obtain ⟨m2,u,v⟩:=zhv hlt hm h37 h2 (.inr (by unfold dgB;rw [decide_eq_true (by omega),decide_eq_true (by omega)];rfl));exact ⟨m2,u,HJ.trans v⟩
        clear HJ h37 g37;go_wp2_with fail;go_roundw
        case rel=>exact ⟨k+2,by omega,by go_num,trivial,HK⟩
        case measure=>simp [intOf];omega
    ·have z5:((k:Int)+1==(s.size:Int))=true:=beq_iff_eq.2 (by omega)
     have HE:Hid (tmB s=false):=HJ.trans (zmX hlt hm h37 h2);clear HJ h37;go_wp2_with fail;go_ret
     exact ⟨by rw [HE.out];rfl,rfl⟩
   ·have e37:((s[k].toNat:Int)==37)=false:=bF h37
    have HK:Hid (∃m2,s.size<=k+1+m2/\tmB s=zd9 s m2 (k+1)):=by
     obtain ⟨m2,u,v⟩:=zhu hlt hm h37;exact ⟨m2,u,HJ.trans v⟩
    clear HJ h37;go_wp2_with fail;go_roundw
    case rel=>exact ⟨k+1,by omega,by go_num,trivial,HK⟩
    case measure=>simp [intOf];omega
  ·obtain rfl:k=s.size:=by omega
   have HE:Hid (tmB s=true):=HJ.trans (zmW s m _ (by omega));clear HJ;go_wp2_with fail;go_ret
   exact ⟨by rw [HE.out];rfl,rfl⟩
end Go.Proofs.YtkihfkcmcdiajaaGreatDoor.T
