import Derived.Deep.WholeRow
import Derived.Test.YtkihfkcmcdiajabGreatDoorPo15
set_option maxRecDepth 100000
set_option maxHeartbeats 8000000
namespace Go.Proofs.YtkihfkcmcdiajabGreatDoor
open Go.RowKit
def LxP (w w':World) (r:Sum (List Tk) (Nat×Int)) (e:Ending):Prop:=match r with
 | .inr q=>e=.returned (.tuple #[.slice none 0 0,.agg #[.int .i64 q.1,.int .i64 q.2]])
 | .inl l=>∃v,e=.returned (.tuple #[v,.agg #[.int .i64 0,.int .i64 0]])/\w'.ownsRow w.heap.size 69 9 v l.length (tkc l)
structure AtY (w W:World) (s:ByteArray) (v:Value) (out:List Tk) (i f:Nat):Prop where
 b:bW w W
 x:FX W w.heap.size 0 0
 g:SG W
 o:W.ownsRow w.heap.size 69 9 v out.length (tkc out)
 hi:i<=s.size
 hf:s.size<f+zbE s i
 he:zbT (zaL s) s f out (zbE s i)=zbf (zaL s) s
 hl:out.length<=i
theorem zoM {W:World} {B n b:Nat} {v:Value} {xs:List Value} {p q:Int} (h:W.ownsRow B 69 9 v n xs) (hx:FX W b p q) (p' q':Int):(stF W b p' q').ownsRow B 69 9 v n xs:=by
 refine ⟨h.1,?_⟩
 rcases h.2 with hn | ⟨g,cap,cur,rfl,hB,hgg,rest⟩
 ·exact .inl hn
 ·refine .inr ⟨g,cap,cur,rfl,hB,?_,rest⟩
  have hne:g≠b:=by
   rintro rfl;rw [hx.heap] at hgg
   injection hgg with h1
   injection h1 with h2 h3
   cases h3
  rw [zcI p' q' hne];exact hgg
theorem own_ne {W:World} {B n b:Nat} {v:Value} {xs:List Value} {p q:Int} (h:W.ownsRow B 69 9 v n xs) (hx:FX W b p q):v.ownBlock≠some b:=by
 rcases h.2 with ⟨rfl,_⟩ | ⟨g,cap,cur,rfl,hB,hgg,rest⟩
 ·intro q;cases q
 ·intro q
  cases q
  rw [hx.heap] at hgg
  injection hgg with h1
  injection h1 with h2 h3
  cases h3
theorem FX.grown {W W':World} {b:Nat} {p e:Int} {row:Option Nat} (h:FX W b p e) (hg:W.grownBy W' row) (hne:row≠some b):FX W' b p e:=⟨(hg.block b h.lt (fun e=>hne e.symm)).trans h.heap⟩
theorem zcp {B:Nat} {w W:World} {b:Nat} (h:Below B w W) (hb:B<=b) (p q:Int):Below B w (stF W b p q):=(h.setCell (p:=⟨b,0,none⟩) hb _).setCell (p:=⟨b,1,none⟩) hb _
theorem zd5 {fn:Func} {R:Ending->World->Prop} {a:Act} {W:World} {b:Nat} {p e:Int} {v:Value} (hF:fn.results=#[.tmp 2,.cell 3 27]) (hd:a.defers=[]) (h2:a.tmps.getD 2 undef=v) (h3:a.tmps.getD 3 undef=.pointer (some ⟨b,0,none⟩)) (hT:FX W b p e) (hR:R (.returned (.tuple #[v,.agg #[.int .i64 p,.int .i64 e]])) W):bodyPost Tryz.prog fn R .ret a W:=by
 have c0:=hT.c0;have c1:=hT.c1;refine bodyPost_ret (v:=.tuple #[v,.agg #[.int .i64 p,.int .i64 e]]) ?_ hd hR;simp only [Array.getD_eq_getD_getElem?] at h2 h3;simp [results,hF,go_sem,h2,h3,c0,c1]
theorem zoN (s:ByteArray) (hs:s.size<=65536)
  (H2:∀b t,b<s.size->zaL s b=.inl t->∃e:Nat,t.en=e/\b<e/\e<=s.size) (H3:∀b q,zaL s b=.inr q->q.2≠0) (w:World) (hg:SG w) :
  Cl 31 #[.string s] w fun e w'=>LxP w w' (zbf (zaL s) s) e/\bW w w':=by
 have t1:¬(65536:Int)<(s.size:Int):=by omega
 obtain ⟨i0,hinf,hz0,hz1,hz2⟩:=info_parts Tryz.info36;have HB:Hid (∀k w,k<=s.size->Cl 56 #[.string s,.int .i64 ((k:Nat):Int)] w (rU w (.int .i64 (spN blB s k)))):=fun k w hk=>zib s k (by omega) hk w
 have HLn:Hid (∀k w,k<=s.size->Cl 58 #[.string s,.int .i64 ((k:Nat):Int)] w (rU w (.int .i64 (spN lnB s k)))):=fun k w hk=>zgM s k (by omega) hk w
 have HS:Hid (∀k w,k<=s.size->Cl 57 #[.string s,.int .i64 ((k:Nat):Int),.string ⟨#[45,45]⟩] w (rU w (.bool (pfx s k [45,45])))):=fun k w hk=>zaz s k ⟨#[45,45]⟩ hk w
 have HO:Hid (∀b w,b<s.size->SG w->Cl 59 #[.string s,.int .i64 ((b:Nat):Int)] w (rB w (za1 (zaL s b)))):=fun b w hb g=>zfT s b hs hb w g
 have HE:Hid ((∀b t,b<s.size->zaL s b=.inl t->∃e:Nat,t.en=e/\b<e/\e<=s.size)/\∀b q,zaL s b=.inr q->q.2≠0):=⟨H2,H3⟩;have HG0:Hid (SG w):=hg;have H0:=(show Hid (AtY w (w.alloc (fxO 0 0)) s (.slice none 0 0) [] 0 (s.size+1)) from
  ⟨zaa _ _,⟨heap_alloc_new w _⟩,hg.later (zaa _ _),World.ownsRow_nil _ _ _ _,by omega,by have:=(zcu (s:=s) (i:=0) (by omega)).1;omega,by unfold zbf;rw [iN (by omega)],nL _⟩)
 clear H2 H3 hg;go_enter Tryz.func31,Tryz.ntmps31;go_wp2_with fail;refine zeX 2 0 (fun a' W=>∃(out:List Tk) (i f:Nat) (v u6 u7 u8 u9 u10 u11 u12 u13 u14 u15 u16 u17 u18 u19 u20 u21 u22 u23 u24 u25 u26 u27 u28 u29 u30 u31 u32 u33 u34 u35 u36 u37 u38 u39 u40 u41 u42 u43 u44:Value),a'={ tmps:=#[.string s,undef,.slice none 0 0,.pointer (some ⟨w.heap.size,0,none⟩),v,.int .i64 i,u6,u7,u8,u9,u10,u11,u12,u13,u14,u15,u16,u17,u18,u19,u20,u21,u22,u23,u24,u25,u26,u27,u28,u29,u30,u31,u32,u33,u34,u35,u36,u37,u38,u39,u40,u41,u42,u43,u44],defers:=[] }/\Hid (AtY w W s v out i f)) (fun a' _=>s.size - (intOf (a'.tmps.getD 5 undef)).toNat) rfl ?_ ?_
 case refine_2 =>
  rintro a' W ⟨out,i,f,v,u6,u7,u8,u9,u10,u11,u12,u13,u14,u15,u16,u17,u18,u19,u20,u21,u22,u23,u24,u25,u26,u27,u28,u29,u30,u31,u32,u33,u34,u35,u36,u37,u38,u39,u40,u41,u42,u43,u44,rfl,HW⟩;clear H0;have hi:=HW.hi;have hf:=HW.hf;have hol:=HW.hl;have hge:=zbe blB s (by decide) i;have hle:=zbF blB s (by decide) i hi;have HBi:=(show Hid _ from fun w=>HB i w hi);have HSi:=(show Hid _ from fun w=>HS (spN blB s i) w hle);have HLi:=(show Hid _ from fun w=>HLn (spN blB s i) w hle);have HGe:Hid (spN blB s i=s.size->zbE s i=s.size):=fun h=>zmj h
  have HGn:Hid (chr s (spN blB s i)=45->chr s (spN blB s i+1)=45->zbE s i=zbE s (spN lnB s (spN blB s i))/\spN blB s i<spN lnB s (spN blB s i)):=fun a b=>zkn a b
  have HGh:Hid (spN blB s i<s.size->¬(chr s (spN blB s i)=45/\chr s (spN blB s i+1)=45)->zbE s i=spN blB s i):=fun a b=>zko a b
  have hle2:=zbF lnB s (by decide) (spN blB s i) hle;generalize hp:spN blB s i=p at *;clear HB HS HLn hp;by_cases hend:p=s.size
  ·have HV:Hid (zbf (zaL s) s=.inl out):=by
    show zbf (zaL s) s=_
    rw [<-HW.he,HGe hend];obtain ⟨f,rfl⟩:∃g,f=g+1:=⟨f - 1,by have:=HGe hend;omega⟩;rw [zbT,iN (by omega)]
   have v1:((p:Int)==(s.size:Int))=true:=by rw [hend];exact beq_self_eq_true _
   have f0:=HW.x.f0;have f1':=HW.x.f1;have c0:=HW.x.c0;have c1:=HW.x.c1;clear HSi HLi HGe HGn HGh HO HE hend;go_wp2_with fail;refine (HBi _).mono ?_;rintro e W ⟨rfl,rfl⟩;clear HBi;go_wp2_with fail;refine zd5 rfl rfl rfl rfl (zew HW.x 0 0) ⟨?_,zcp HW.b (nL _) 0 0⟩;rw [HV.out];exact ⟨v,rfl,zoM HW.o HW.x 0 0⟩
  have v1:((p:Int)==(s.size:Int))=false:=by rw [beq_eq_false_iff_ne];omega
  have hplt:p<s.size:=by omega
  by_cases hn:chr s p=45/\chr s (p+1)=45
  ·obtain ⟨hg1,hg2⟩:=HGn hn.1 hn.2
   have hpf:pfx s p [45,45]=true:=by
    show (chr s p==45&&(chr s (p+1)==45&&true))=true
    rw [hn.1,hn.2];rfl
   rw [hpf] at HSi;generalize spN lnB s p=q at *;have HW2:Hid (AtY w W s v out q f):=⟨HW.b,HW.x,HW.g,HW.o,hle2,by have:=HW.hf;rw [hg1] at this;exact this,by rw [<-hg1];exact HW.he,by have:=HW.hl;omega⟩;clear HGe HGn HGh HO HE hend hn hg1 hpf HW;go_wp2_with fail;refine (HBi _).mono ?_;rintro e W ⟨rfl,rfl⟩;clear HBi;go_wp2_with fail;refine (HSi _).mono ?_;rintro e W ⟨rfl,rfl⟩;clear HSi;go_wp2_with fail;go_step3
   simp (config:={ zetaDelta:=true }) only [zbC,zcS]
   refine zgh rfl ?_;go_wp2_with fail;refine (HLi _).mono ?_;rintro e W ⟨rfl,rfl⟩;clear HLi;go_wp2_with fail;go_step3
   simp (config:={ zetaDelta:=true }) only [zbC]
   refine zjR ⟨⟨out,q,f,v,_,_,_,_,_,_,_,_,_,_,_,_,_,_,_,_,_,_,_,_,_,_,_,_,_,_,_,_,_,_,_,_,_,_,_,_,_,_,_,rfl,HW2⟩,?_⟩;simp [intOf]
   omega
  ·have hg1:=HGh hplt hn
   have hpf:pfx s p [45,45]=false:=by
    show (chr s p==45&&(chr s (p+1)==45&&true))=false
    by_cases h1:chr s p=45
    ·have h2:¬chr s (p+1)=45:=fun q=>hn ⟨h1,q⟩
     rw [bF h2];simp
    ·rw [bF h1];rfl
   rw [hpf] at HSi;have HOp:Hid (∀w,SG w->Cl 59 #[.string s,.int .i64 ((p:Nat):Int)] w (rB w (za1 (zaL s p)))):=fun w g=>HO p w hplt g
   obtain ⟨f,rfl⟩:∃g,f=g+1:=⟨f - 1,by omega⟩;have HU:Hid (zbf (zaL s) s=match zaL s p with
    | .inr q=>.inr q
    | .inl t=>zbT (zaL s) s f (out++[t]) (zbE s t.en.toNat)):=by show zbf (zaL s) s=_;rw [<-HW.he,zbT,hg1,iP hplt];cases zaL s p <;> rfl
   cases ho:zaL s p with
   | inr q =>
    have hne:=HE.2 p q ho;have HV:Hid (zbf (zaL s) s=.inr q):=by show zbf (zaL s) s=_;rw [HU.out,ho]
    rw [ho] at HOp;have t3:(q.2 != 0)=true:=by rw [bne,bF hne];rfl
    clear HGe HGn HGh HO HE hend hn hg1 hpf HLi HU ho hne;go_wp2_with fail;refine (HBi _).mono ?_;rintro e W ⟨rfl,rfl⟩;clear HBi;go_wp2_with fail;refine (HSi _).mono ?_;rintro e W ⟨rfl,rfl⟩;clear HSi;go_wp2_with fail;go_step3
    simp (config:={ zetaDelta:=true }) only [zbC,zcS]
    refine zgh rfl ?_;go_wp2_with fail;refine (HOp _ HW.g).mono ?_;rintro e w3 ⟨rfl,b3⟩;have HB5:=(show Hid (bW w ((w3.alloc (tkO tk0)).alloc (fxO q.1 q.2))/\FX ((w3.alloc (tkO tk0)).alloc (fxO q.1 q.2)) w.heap.size 0 0/\FX ((w3.alloc (tkO tk0)).alloc (fxO q.1 q.2)) (w3.heap.size+1) q.1 q.2) from
     ⟨(((HW.b.trans (b3.mono HW.b.size)).alloc (Nat.le_trans HW.b.size b3.size) _).alloc (by rw [sA];have:=HW.b.size;have:=b3.size;omega) _),((HW.x.below b3).below (zaa _ _)).below (zaa _ _),⟨by
      have h:=heap_alloc_new (w3.alloc (tkO tk0)) (fxO q.1 q.2);rw [sA] at h;exact h⟩⟩)
    have hlt3:=(HW.x.below b3).lt;have ne1:¬w3.heap.size+1=w.heap.size:=by omega
    have ne2:¬w.heap.size=w3.heap.size+1:=by omega
    clear b3 HW HOp;unfold za1 zaR;go_wp2_with fail;generalize (w3.alloc (tkO tk0)).alloc (fxO q.1 q.2)=w5 at *;have f0:=HB5.2.1.f0;have f1':=HB5.2.1.f1;have c0:=HB5.2.1.c0;have c1:=HB5.2.1.c1;have k0:=HB5.2.2.c0;have k1:=HB5.2.2.c1;go_region
    all_goals
     go_wp2_with fail;simp only [zdx];refine zd5 rfl rfl rfl rfl ((zew HB5.2.1 q.1 q.2).below (bR _ _).drew) ⟨?_,(zcp HB5.1 (nL _) q.1 q.2).drew⟩;rw [HV.out];exact rfl
   | inl t =>
    obtain ⟨en,he1,he2,he3⟩:=HE.1 p t hplt ho;have HV:Hid (zbT (zaL s) s f (out++[t]) (zbE s en)=zbf (zaL s) s):=by show _=zbf (zaL s) s;rw [HU.out,ho];show _=zbT (zaL s) s f (out++[t]) (zbE s t.en.toNat);rw [he1];rfl
    have hgb:=zcu he3;have HEn:Hid (t.en=(en:Int)):=he1;clear he1;rw [ho] at HOp;clear HGe HGn HGh HO HE hend hn hpf HLi HU ho;go_wp2_with fail;refine (HBi _).mono ?_;rintro e W ⟨rfl,rfl⟩;clear HBi;go_wp2_with fail;refine (HSi _).mono ?_;rintro e W ⟨rfl,rfl⟩;clear HSi;go_wp2_with fail;go_step3
    simp (config:={ zetaDelta:=true }) only [zbC,zcS]
    refine zgh rfl ?_;go_wp2_with fail;refine (HOp _ HW.g).mono ?_;rintro e w3 ⟨rfl,b3⟩;have hO:w3.ownsRow w.heap.size 69 9 v out.length (tkc out):=zf1 HW.o b3;have HB3:Hid (bW w w3/\FX w3 w.heap.size 0 0/\SG w3):=⟨HW.b.trans (b3.mono HW.b.size),HW.x.below b3,HW.g.later b3⟩;have hs3:=HB3.1.size;have HX:Hid (TX ((w3.alloc (tkO t)).alloc (fxO 0 0)) w3.heap.size t):=(TX.new w3 t).below (zaa _ _);clear b3 HOp HW;unfold za1 zaR;obtain ⟨c0,c1,c2,c3,c4,c5,c6,c7,c8⟩:=HX.cells;go_wp2_with (at_builtin;refine wpList_append_lies _ rfl _ _ 40 rfl w.heap.size 69 i0 (tkG tk0) 9 80 Tryz.underlying40 hinf hz0 hz1 hz2 rfl (by decide) _ _ _ rfl (((hO.alloc _).alloc _).alloc _) ⟨w3.heap.size+1+1,0,none⟩ 1 1 (tkV t) rfl rfl ?c1 (zjg _) (by decide) ?c3 ?c4 ?c5 (w3.heap.size+1+1+1) (by simp) ?_)
    case c1 =>
     have hh:=heap_alloc_new ((w3.alloc (tkO t)).alloc (fxO 0 0)) (.cells (tkC t) 69);rw [sA,sA] at hh;exact World.news_of_block (cs:=tkC t) (t:=69) (fr:=(0,0)) hh
    case c3=>unfold maxLen;omega
    case c4=>omega
    case c5=>first | omega | (simp;omega)
    intro g3 cap w4 hown hgrow hat _;have hgo:∀k,v.ownBlock=some k->w.heap.size<=k/\k<w3.heap.size:=fun k e=>hO.lt k e
    have hne4:=own_ne hO HB3.2.1;have HX4:Hid (TX w4 w3.heap.size t):=(HX.below (zaa _ _)).grown hgrow (fun e=>by have:=(hgo _ e).2;omega);have hb4:bW w w4:=(((HB3.1.alloc hs3 _).alloc (by rw [sA];omega) _).alloc (by rw [sA,sA];omega) _).grown hgrow (by rw [sA,sA,sA];omega) (fun k e=>(hgo k e).1);have HW4:=(show Hid (AtY w w4 s (.slice (some ⟨g3,0,none⟩) (out.length+1) cap) (out++[t]) en f) from by
     refine ⟨hb4,(((HB3.2.1.below (zaa _ _)).below (zaa _ _)).below (zaa _ _)).grown hgrow hne4,HG0.below hb4 HG0.lt,?_,he3,by rw [hg1] at hf;omega,HV.out,by rw [lA,List.length_singleton];omega⟩;rw [lA,List.length_singleton,zdR,zgJ];exact hown)
    have e3:=HX4.cells.c3;rw [HEn.out] at e3;clear hown hgrow hat hgo hO HB3 HX HV c0 c1 c2 c3 c4 c5 c6 c7 c8 hne4 hb4 HX4;go_wp2_with fail;go_step3
    simp (config:={ zetaDelta:=true }) only []
    refine zjR ⟨⟨out++[t],en,f,_,_,_,_,_,_,_,_,_,_,_,_,_,_,_,_,_,_,_,_,_,_,_,_,_,_,_,_,_,_,_,_,_,_,_,_,_,_,_,_,rfl,HW4⟩,?_⟩;simp [intOf]
    omega
 case refine_1 =>
  intro hpass;have HPs:=hO hpass;clear hpass;go_wp2_with fail;go_step3
  rename_i hK
  refine hK _ _ ?_;refine HPs _ _ ?_;exact ⟨[],0,s.size+1,.slice none 0 0,_,_,_,_,_,_,_,_,_,_,_,_,_,_,_,_,_,_,_,_,_,_,_,_,_,_,_,_,_,_,_,_,_,_,_,_,_,_,_,rfl,H0⟩
theorem zkp (s:ByteArray) (hs:65536<s.size) (w:World):Cl 31 #[.string s] w fun e w'=>LxP w w' (zbf (zaL s) s) e/\bW w w':=by
 have t1:(65536:Int)<(s.size:Int):=by omega
 have HE:Hid (zbf (zaL s) s=.inr (0,2)):=by show zbf (zaL s) s=_;unfold zbf;rw [iP hs]
 go_enter Tryz.func31,Tryz.ntmps31;go_wp2_with fail;refine zaU 1 0 rfl ?_;go_wp2_with fail;simp only [zdx];refine zd5 (b:=w.heap.size) (p:=0) (e:=2) rfl rfl rfl rfl ⟨heap_alloc_new w _⟩ ⟨?_,zaa _ _⟩;rw [HE.out];exact rfl
theorem zmk (s:ByteArray) (q:Int) (b:Nat) (hq:0<=q):∀(f:Nat) (out:List Int) (i:Nat) (t:Tk),zbz s q b f out i=.inl t->∃e:Nat,t.en=e/\i<e/\e<=s.size:=by
 intro f
 induction f with
 | zero=>intro out i t h;rw [zbz] at h;cases h
 | succ f ih =>
  intro out i t h;rw [zbz] at h
  split at h
  ·cases h
  next h0 =>
  split at h
  next h1 =>
   split at h
   ·cases h
   ·cases h
    have:=zaB (s:=s) (i:=i) (by omega);exact ⟨i+1,rfl,by omega,by omega⟩
  split at h
  ·cases h
  split at h
  ·obtain ⟨e,h1,h2,h3⟩:=ih _ _ _ h
   exact ⟨e,h1,by omega,h3⟩
  ·split at h
   ·cases h
   ·next c n he =>
    have h4:=zkk he;obtain ⟨e,h1,h2,h3⟩:=ih _ _ _ h;exact ⟨e,h1,by omega,h3⟩
theorem zml (s:ByteArray) (q:Int) (b:Nat):∀(f:Nat) (out:List Int) (i:Nat) (p:Nat×Int),zbz s q b f out i=.inr p->p.2≠0:=by
 intro f
 induction f with
 | zero=>intro out i p h;rw [zbz] at h;cases h;simp
 | succ f ih =>
  intro out i p h;rw [zbz] at h
  split at h
  ·cases h;simp
  split at h
  ·split at h
   ·cases h;simp
   ·cases h
  split at h
  ·cases h;simp
  split at h
  ·exact ih _ _ _ h
  ·split at h
   ·cases h;simp
   ·exact ih _ _ _ h
theorem zoO {s:ByteArray} {d:Nat} {m n:Int} (h:zbR s d m=.inl n):d<spN dgB s d:=by
 unfold zbR at h
 split at h
 ·cases h
 ·omega
theorem znf {s:ByteArray} {b d:Nat} {k:Int} {t:Tk} (hd:d<=s.size) (h:nmR s b d k=.inl t):∃e:Nat,t.en=e/\d<e/\e<=s.size:=by
 unfold nmR at h
 cases hn:zbR s d (gtK k) with
 | inr e=>rw [hn] at h;cases h
 | inl n =>
  rw [hn] at h
  cases h
  exact ⟨_,rfl,zoO hn,zbF dgB s (by decide) d hd⟩
theorem zoP {s:ByteArray} {d:Nat} {m e:Int} (h:zbR s d m=.inr e):e≠0:=by
 unfold zbR at h
 split at h
 ·cases h;simp
 ·split at h
  ·cases h;simp
  ·cases h
theorem zng {s:ByteArray} {b d:Nat} {k:Int} {q:Nat×Int} (h:nmR s b d k=.inr q):q.2≠0:=by
 unfold nmR at h
 cases hn:zbR s d (gtK k) with
 | inr e=>rw [hn] at h;cases h;exact zoP hn
 | inl n=>rw [hn] at h;cases h
theorem zmm {s:ByteArray} {b:Nat} {q:Nat×Int} (h:zcE s b=.inr q):q.2≠0:=by
 unfold zcE at h
 split at h
 ·cases h;simp
 ·cases h
theorem zoQ {s:ByteArray} {b d:Nat} {q:Nat×Int} (h:zcF s b d=.inr q):q.2≠0:=by
 unfold zcF at h
 split at h
 ·split at h
  ·cases h;simp
  ·split at h <;> cases h
 ·cases h
theorem zoR {s:ByteArray} {b d:Nat} {t:Tk} (hd:d<=s.size) (h:zcF s b d=.inl t):∃e:Nat,t.en=e/\d<=e/\e<=s.size:=by
 unfold zcF at h
 split at h
 ·split at h
  ·cases h
  ·split at h
   ·next hc =>
    cases h
    have h1:=zbe nmB s (by decide) d;have h2:=zaB (s:=s) (i:=spN nmB s d) (by omega);exact ⟨_,rfl,by omega,by omega⟩
   ·cases h;exact ⟨d,rfl,nL _,hd⟩
 ·cases h;exact ⟨d,rfl,nL _,hd⟩
theorem zmn (s:ByteArray) (i:Nat):∀l:List (Int×List UInt8),(∀p∈l,p.1≠0/\1<=p.2.length)->(zhM s i l).1=0∨1<=(zhM s i l).2.length:=by
 intro l
 induction l with
 | nil=>intro _;exact .inl rfl
 | cons p l ih =>
  intro h;rw [zhM]
  split
  ·exact .inr (h p (List.mem_cons_self ..)).2
  ·exact ih (fun q hq=>h q (List.mem_cons_of_mem _ hq))
theorem zmo (s:ByteArray) (i:Nat):(zax s i).1=0∨1<=(zax s i).2.length:=zmn s i sgTab (by decide)
theorem zkq {s:ByteArray} {b:Nat} {t:Tk} (hb:b<=s.size) (h:zbS s b=.inl t):∃e:Nat,t.en=e/\b<e/\e<=s.size:=by
 have h1:=zca s b hb;have h2:=zmo s b;unfold zbS at h
 split at h
 ·cases h
 next h0 =>
 have h3:1<=(zax s b).2.length:=by rcases h2 with q | q;exact absurd q h0;exact q
 split at h
 ·obtain ⟨e,a1,a2,a3⟩:=znf h1 h
  exact ⟨e,a1,by omega,a3⟩
 split at h
 ·obtain ⟨e,a1,a2,a3⟩:=zoR h1 h
  exact ⟨e,a1,by omega,a3⟩
 ·cases h
  exact ⟨_,rfl,by omega,h1⟩
theorem zkr {s:ByteArray} {b:Nat} {q:Nat×Int} (h:zbS s b=.inr q):q.2≠0:=by
 unfold zbS at h
 split at h
 ·cases h;simp
 split at h
 ·exact zng h
 split at h
 ·exact zoQ h
 ·cases h
theorem zoS {s:ByteArray} {b:Nat} {t:Tk} (hb:b+3<=s.size) (h:zb6 s b=.inl t):∃e:Nat,t.en=e/\b<e/\e<=s.size:=by
 have h1:=zcm hb;unfold zb6 at h
 split at h
 ·cases h
 split at h
 ·next h45 =>
  have h2:=zaB (s:=s) (i:=(ptP s (b+3)).2.1) (by omega);have h3:=zcm (s:=s) (a:=(ptP s (b+3)).2.1+1) (by omega)
  split at h
  ·cases h
  split at h
  ·next hc =>
   cases h
   have h4:=zaB (s:=s) (i:=(ptP s ((ptP s (b+3)).2.1+1)).2.1) (by omega);exact ⟨_,rfl,by omega,by omega⟩
  ·cases h
 ·split at h
  ·next hc =>
   cases h
   have h4:=zaB (s:=s) (i:=(ptP s (b+3)).2.1) (by omega);exact ⟨_,rfl,by omega,by omega⟩
  ·cases h
theorem zoT {s:ByteArray} {b:Nat} {q:Nat×Int} (h:zb6 s b=.inr q):q.2≠0:=by
 unfold zb6 at h
 split at h
 ·cases h;simp
 split at h
 ·split at h
  ·cases h;simp
  split at h
  ·cases h
  ·cases h;simp
 ·split at h
  ·cases h
  ·cases h;simp
theorem zoU {s:ByteArray} {b:Nat} {t:Tk} (hb:b<=s.size) (h:zc2 s b=.inl t):∃e:Nat,t.en=e/\b<e/\e<=s.size:=by
 unfold zc2 at h
 split at h
 ·next hp=>exact zoS (zgW hb hp) h
 split at h
 ·exact zkq hb h
 split at h
 ·next hc=>cases h;exact ⟨_,rfl,by omega,by omega⟩
 ·cases h
theorem zoV {s:ByteArray} {b:Nat} {q:Nat×Int} (h:zc2 s b=.inr q):q.2≠0:=by
 unfold zc2 at h
 split at h
 ·exact zoT h
 split at h
 ·exact zkr h
 split at h
 ·cases h
 ·cases h;simp
theorem zg7 (s:ByteArray) (b:Nat) (q:Nat×Int) (h:zaL s b=.inr q):q.2≠0:=by
 unfold zaL at h
 split at h
 ·exact zmm h
 split at h
 ·exact zng h
 split at h
 ·exact zml _ _ _ _ _ _ _ h
 split at h
 ·unfold clT at h
  cases hr:zap s b with
  | inl p=>rw [hr] at h;cases h
  | inr p =>
   obtain ⟨a,c⟩:=p;rw [hr] at h;have hne:=zeK hr;dsimp only at h
   split at h
   ·cases h;simp
   ·cases h;exact hne
 split at h
 ·exact zoV h
 ·exact zkr h
theorem zks {s:ByteArray} {i:Nat} {x:BitVec 256} {n:Nat} (h:zap s i=.inl (x,n)):i<n:=by
 unfold zap at h
 split at h
 ·simp at h
 ·split at h
  ·split at h
   ·cases hm:zag s (s.size+1) 0#256 ((i:Int).toNat+2) with
    | inr pq =>
     obtain ⟨a',c'⟩:=pq;rw [hm] at h;simp [zcU] at h
    | inl p=>obtain ⟨y,m⟩:=p;have b:=zbu hm;rw [hm] at h;simp only [zcU,Sum.inl.injEq,Prod.mk.injEq] at h;omega
   ·cases hm:zag s (s.size+1) 0#256 ((i:Int).toNat+1) with
    | inr pq =>
     obtain ⟨a',c'⟩:=pq;rw [hm] at h;simp [zfQ] at h
    | inl p=>obtain ⟨y,m⟩:=p;have b:=zbu hm;rw [hm] at h;simp only [zfQ,Sum.inl.injEq,Prod.mk.injEq] at h;omega
  ·simp at h
theorem zg8 (s:ByteArray) (b:Nat) (t:Tk) (hb:b<s.size) (h:zaL s b=.inl t):∃e:Nat,t.en=e/\b<e/\e<=s.size:=by
 unfold zaL at h
 split at h
 ·next hh =>
  unfold zcE at h
  split at h
  ·cases h
  ·cases h
   have h1:=(za8 (P:=nmB) (s:=s) (i:=b) (by decide) (by unfold nmB;rw [hh];rfl)).2;have h2:=zbe nmB s (by decide) (b+1);exact ⟨_,rfl,by omega,zbF nmB s (by decide) b (by omega)⟩
 split at h
 ·exact znf (by omega) h
 split at h
 ·next hq =>
  obtain ⟨e,a1,a2,a3⟩:=zmk s _ b (by omega) _ _ _ _ h;exact ⟨e,a1,by omega,a3⟩
 split at h
 ·cases hr:zap s b with
  | inr p =>
   rw [hr,clT] at h
   split at h <;> cases h
  | inl p =>
   obtain ⟨x,n⟩:=p;rw [hr] at h
   cases h
   exact ⟨n,rfl,zks hr,zkb hr⟩
 split at h
 ·exact zoU (by omega) h
 ·exact zkq (by omega) h
theorem zhP (s:ByteArray) (w:World) (hg:SG w):Cl 31 #[.string s] w fun e w'=>LxP w w' (zbf (zaL s) s) e/\bW w w':=by
 by_cases hs:s.size<=65536
 ·exact zoN s hs (fun b t hb h=>zg8 s b t hb h) (fun b q h=>zg7 s b q h) w hg
 ·exact zkp s (by omega) w
theorem zg9 {s:ByteArray} {i a:Nat} {c:Int} (hi:i<=s.size) (h:zab s i=.inr (a,c)):a<=s.size:=by
 unfold zab at h
 split at h
 ·unfold zaW at h
  split at h
  ·simp at h
  ·simp only [Sum.inr.injEq,Prod.mk.injEq] at h;omega
 ·split at h
  ·simp only [Sum.inr.injEq,Prod.mk.injEq] at h;omega
  ·rename_i lo m hm
   split at h
   ·rename_i hc
    have hlt:m<s.size:=zaB (by rw [hc];omega)
    split at h
    ·simp only [Sum.inr.injEq,Prod.mk.injEq] at h;omega
    ·split at h
     ·simp only [Sum.inr.injEq,Prod.mk.injEq] at h;omega
     ·simp at h
   ·simp at h
theorem zd6 {s:ByteArray}:∀{f:Nat} {x:BitVec 256} {i a:Nat} {c:Int},i<=s.size->zag s f x i=.inr (a,c)->a<=s.size:=by
 intro f
 induction f with
 | zero=>intro x i a c hi h;simp only [zag,Sum.inr.injEq,Prod.mk.injEq] at h;omega
 | succ f ih =>
  intro x i a c hi h;by_cases hc:chr s i=93
  ·rw [zbk hc] at h;simp at h
  ·cases hm:zab s i with
   | inr pq =>
    obtain ⟨a',c'⟩:=pq;rw [zaA hc hm] at h;simp only [Sum.inr.injEq,Prod.mk.injEq] at h;rw [<-h.1];exact zg9 hi hm
   | inl p=>obtain ⟨y,n⟩:=p;rw [zaC hc hm] at h;exact ih (zdf hm).2 h
theorem zkt {s:ByteArray} {i:Int} {a:Nat} {c:Int} (h:zap s i=.inr (a,c)):a<=s.size:=by
 unfold zap at h
 split at h
 ·simp only [Sum.inr.injEq,Prod.mk.injEq] at h;omega
 ·rename_i hr
  split at h
  ·rename_i h1
   have hlt:i.toNat<s.size:=zaB (by rw [h1];omega)
   split at h
   ·rename_i h2
    have hlt2:i.toNat+1<s.size:=zaB (by rw [h2];omega)
    cases hm:zag s (s.size+1) 0#256 (i.toNat+2) with
    | inr pq =>
     obtain ⟨a',c'⟩:=pq;rw [hm] at h;simp only [zcU,Sum.inr.injEq,Prod.mk.injEq] at h;rw [<-h.1];exact zd6 (by omega) hm
    | inl p=>rw [hm] at h;simp [zcU] at h
   ·cases hm:zag s (s.size+1) 0#256 (i.toNat+1) with
    | inr pq =>
     obtain ⟨a',c'⟩:=pq;rw [hm] at h;simp only [zfQ,Sum.inr.injEq,Prod.mk.injEq] at h;rw [<-h.1];exact zd6 (by omega) hm
    | inl p=>rw [hm] at h;simp [zfQ] at h
  ·simp only [Sum.inr.injEq,Prod.mk.injEq] at h;omega
theorem spN_eq {P:Int->Bool} {s:ByteArray} (hn:P (-1)=false) {i e:Nat} (hie:i<=e) (h:∀k,i<=k->k<e->P (chr s k)=true) (he:P (chr s e)=false):spN P s i=e:=by
 obtain ⟨h1,_,h3,h4⟩:=zbX P s hn _ i rfl;by_cases q:spN P s i<e
 ·rw [h _ h1 q] at h3;cases h3
 ·by_cases q2:e<spN P s i
  ·rw [h4 e hie q2] at he;cases he
  ·omega
theorem zha (s:ByteArray) (i:Nat) (h:i<=s.size):i<=zbE s i:=(zcu h).1
def sgC (c0 c1:Int):Int×List UInt8 :=
 if c0=37 then (if c1=101 then (29,[37,101]) else if c1=102 then (30,[37,102]) else (0,[]))
 else if c0=94 then (if c1=43 then (14,[94,43]) else if c1=45 then (15,[94,45]) else (13,[94]))
 else if c0=60 then (if c1=45 then (6,[60,45]) else (0,[]))
 else if c0=45 then (if c1=62 then (27,[45,62]) else (0,[]))
 else if c0=47 then (7,[47])
 else if c0=38 then (8,[38])
 else if c0=33 then (9,[33])
 else if c0=63 then (10,[63])
 else if c0=42 then (11,[42])
 else if c0=43 then (12,[43])
 else if c0=40 then (16,[40])
 else if c0=41 then (17,[41])
 else if c0=46 then (18,[46])
 else if c0=123 then (if c1=58 then (21,[123,58]) else if c1=124 then (23,[123,124]) else if c1=126 then (25,[123,126]) else (19,[123]))
 else if c0=58 then (if c1=125 then (22,[58,125]) else (0,[]))
 else if c0=124 then (if c1=125 then (24,[124,125]) else (0,[]))
 else if c0=126 then (if c1=125 then (26,[126,125]) else (0,[]))
 else if c0=125 then (20,[125]) else (0,[])
def pfC (c0 c1:Int):List UInt8->Bool
 | []=>true
 | [x]=>c0==(x.toNat:Int)
 | x::y::_=>c0==(x.toNat:Int)&&c1==(y.toNat:Int)
def zee (c0 c1:Int):List (Int×List UInt8)->Int×List UInt8
 | []=>(0,[])
 | p::l=>if pfC c0 c1 p.2=true then p else zee c0 c1 l
theorem pfx_C (s:ByteArray) (b:Nat) (l:List UInt8) (h:l.length<=2):pfx s b l=pfC (chr s b) (chr s (b+1)) l:=by
 match l,h with
 | [],_=>rfl
 | [x],_=>show (chr s b==(x.toNat:Int)&&true)=_;rw [Bool.and_true];rfl
 | [x,y],_=>show (chr s b==(x.toNat:Int)&&(chr s (b+1)==(y.toNat:Int)&&true))=_;rw [Bool.and_true];rfl
theorem sgGo_C (s:ByteArray) (b:Nat):∀l:List (Int×List UInt8),(∀p∈l,p.2.length<=2)->zhM s b l=zee (chr s b) (chr s (b+1)) l:=by
 intro l
 induction l with
 | nil=>intro _;rfl
 | cons p l ih =>
  intro h;rw [zhM,zee,pfx_C s b p.2 (h p (List.mem_cons_self ..)),ih (fun q hq=>h q (List.mem_cons_of_mem _ hq))]
theorem znh (c0 c1:Int):zee c0 c1 sgTab=sgC c0 c1:=by
 unfold sgC;by_cases h37:c0=37
 ·subst h37;simp [sgTab,zee,pfC]
  try (by_cases a1:c1=101 <;> by_cases a2:c1=102 <;> by_cases a3:c1=43 <;> by_cases a4:c1=45 <;> by_cases a5:c1=62 <;> by_cases a6:c1=58 <;> by_cases a7:c1=124 <;> by_cases a8:c1=126 <;> by_cases a9:c1=125 <;> simp [*])
 by_cases h94:c0=94
 ·subst h94;simp [sgTab,zee,pfC]
  try (by_cases a1:c1=101 <;> by_cases a2:c1=102 <;> by_cases a3:c1=43 <;> by_cases a4:c1=45 <;> by_cases a5:c1=62 <;> by_cases a6:c1=58 <;> by_cases a7:c1=124 <;> by_cases a8:c1=126 <;> by_cases a9:c1=125 <;> simp [*])
 by_cases h60:c0=60
 ·subst h60;simp [sgTab,zee,pfC]
  try (by_cases a1:c1=101 <;> by_cases a2:c1=102 <;> by_cases a3:c1=43 <;> by_cases a4:c1=45 <;> by_cases a5:c1=62 <;> by_cases a6:c1=58 <;> by_cases a7:c1=124 <;> by_cases a8:c1=126 <;> by_cases a9:c1=125 <;> simp [*])
 by_cases h45:c0=45
 ·subst h45;simp [sgTab,zee,pfC]
  try (by_cases a1:c1=101 <;> by_cases a2:c1=102 <;> by_cases a3:c1=43 <;> by_cases a4:c1=45 <;> by_cases a5:c1=62 <;> by_cases a6:c1=58 <;> by_cases a7:c1=124 <;> by_cases a8:c1=126 <;> by_cases a9:c1=125 <;> simp [*])
 by_cases h47:c0=47
 ·subst h47;simp [sgTab,zee,pfC]
  try (by_cases a1:c1=101 <;> by_cases a2:c1=102 <;> by_cases a3:c1=43 <;> by_cases a4:c1=45 <;> by_cases a5:c1=62 <;> by_cases a6:c1=58 <;> by_cases a7:c1=124 <;> by_cases a8:c1=126 <;> by_cases a9:c1=125 <;> simp [*])
 by_cases h38:c0=38
 ·subst h38;simp [sgTab,zee,pfC]
  try (by_cases a1:c1=101 <;> by_cases a2:c1=102 <;> by_cases a3:c1=43 <;> by_cases a4:c1=45 <;> by_cases a5:c1=62 <;> by_cases a6:c1=58 <;> by_cases a7:c1=124 <;> by_cases a8:c1=126 <;> by_cases a9:c1=125 <;> simp [*])
 by_cases h33:c0=33
 ·subst h33;simp [sgTab,zee,pfC]
  try (by_cases a1:c1=101 <;> by_cases a2:c1=102 <;> by_cases a3:c1=43 <;> by_cases a4:c1=45 <;> by_cases a5:c1=62 <;> by_cases a6:c1=58 <;> by_cases a7:c1=124 <;> by_cases a8:c1=126 <;> by_cases a9:c1=125 <;> simp [*])
 by_cases h63:c0=63
 ·subst h63;simp [sgTab,zee,pfC]
  try (by_cases a1:c1=101 <;> by_cases a2:c1=102 <;> by_cases a3:c1=43 <;> by_cases a4:c1=45 <;> by_cases a5:c1=62 <;> by_cases a6:c1=58 <;> by_cases a7:c1=124 <;> by_cases a8:c1=126 <;> by_cases a9:c1=125 <;> simp [*])
 by_cases h42:c0=42
 ·subst h42;simp [sgTab,zee,pfC]
  try (by_cases a1:c1=101 <;> by_cases a2:c1=102 <;> by_cases a3:c1=43 <;> by_cases a4:c1=45 <;> by_cases a5:c1=62 <;> by_cases a6:c1=58 <;> by_cases a7:c1=124 <;> by_cases a8:c1=126 <;> by_cases a9:c1=125 <;> simp [*])
 by_cases h43:c0=43
 ·subst h43;simp [sgTab,zee,pfC]
  try (by_cases a1:c1=101 <;> by_cases a2:c1=102 <;> by_cases a3:c1=43 <;> by_cases a4:c1=45 <;> by_cases a5:c1=62 <;> by_cases a6:c1=58 <;> by_cases a7:c1=124 <;> by_cases a8:c1=126 <;> by_cases a9:c1=125 <;> simp [*])
 by_cases h40:c0=40
 ·subst h40;simp [sgTab,zee,pfC]
  try (by_cases a1:c1=101 <;> by_cases a2:c1=102 <;> by_cases a3:c1=43 <;> by_cases a4:c1=45 <;> by_cases a5:c1=62 <;> by_cases a6:c1=58 <;> by_cases a7:c1=124 <;> by_cases a8:c1=126 <;> by_cases a9:c1=125 <;> simp [*])
 by_cases h41:c0=41
 ·subst h41;simp [sgTab,zee,pfC]
  try (by_cases a1:c1=101 <;> by_cases a2:c1=102 <;> by_cases a3:c1=43 <;> by_cases a4:c1=45 <;> by_cases a5:c1=62 <;> by_cases a6:c1=58 <;> by_cases a7:c1=124 <;> by_cases a8:c1=126 <;> by_cases a9:c1=125 <;> simp [*])
 by_cases h46:c0=46
 ·subst h46;simp [sgTab,zee,pfC]
  try (by_cases a1:c1=101 <;> by_cases a2:c1=102 <;> by_cases a3:c1=43 <;> by_cases a4:c1=45 <;> by_cases a5:c1=62 <;> by_cases a6:c1=58 <;> by_cases a7:c1=124 <;> by_cases a8:c1=126 <;> by_cases a9:c1=125 <;> simp [*])
 by_cases h123:c0=123
 ·subst h123;simp [sgTab,zee,pfC]
  try (by_cases a1:c1=101 <;> by_cases a2:c1=102 <;> by_cases a3:c1=43 <;> by_cases a4:c1=45 <;> by_cases a5:c1=62 <;> by_cases a6:c1=58 <;> by_cases a7:c1=124 <;> by_cases a8:c1=126 <;> by_cases a9:c1=125 <;> simp [*])
 by_cases h58:c0=58
 ·subst h58;simp [sgTab,zee,pfC]
  try (by_cases a1:c1=101 <;> by_cases a2:c1=102 <;> by_cases a3:c1=43 <;> by_cases a4:c1=45 <;> by_cases a5:c1=62 <;> by_cases a6:c1=58 <;> by_cases a7:c1=124 <;> by_cases a8:c1=126 <;> by_cases a9:c1=125 <;> simp [*])
 by_cases h124:c0=124
 ·subst h124;simp [sgTab,zee,pfC]
  try (by_cases a1:c1=101 <;> by_cases a2:c1=102 <;> by_cases a3:c1=43 <;> by_cases a4:c1=45 <;> by_cases a5:c1=62 <;> by_cases a6:c1=58 <;> by_cases a7:c1=124 <;> by_cases a8:c1=126 <;> by_cases a9:c1=125 <;> simp [*])
 by_cases h126:c0=126
 ·subst h126;simp [sgTab,zee,pfC]
  try (by_cases a1:c1=101 <;> by_cases a2:c1=102 <;> by_cases a3:c1=43 <;> by_cases a4:c1=45 <;> by_cases a5:c1=62 <;> by_cases a6:c1=58 <;> by_cases a7:c1=124 <;> by_cases a8:c1=126 <;> by_cases a9:c1=125 <;> simp [*])
 by_cases h125:c0=125
 ·subst h125;simp [sgTab,zee,pfC]
  try (by_cases a1:c1=101 <;> by_cases a2:c1=102 <;> by_cases a3:c1=43 <;> by_cases a4:c1=45 <;> by_cases a5:c1=62 <;> by_cases a6:c1=58 <;> by_cases a7:c1=124 <;> by_cases a8:c1=126 <;> by_cases a9:c1=125 <;> simp [*])
 simp [sgTab,zee,pfC, *]
theorem zgp (s:ByteArray) (b:Nat):zax s b=sgC (chr s b) (chr s (b+1)):=by
 rw [<-znh];exact sgGo_C s b sgTab (by decide)
theorem zmp (s:ByteArray) (q:Int) (b:Nat):∀(f:Nat) (out:List Int) (i:Nat) (t:Tk),zbz s q b f out i=.inl t->t.fr=b:=by
 intro f
 induction f with
 | zero=>intro out i t h;rw [zbz] at h;cases h
 | succ f ih =>
  intro out i t h;rw [zbz] at h
  split at h
  ·cases h
  split at h
  ·split at h
   ·cases h
   ·cases h;rfl
  split at h
  ·cases h
  split at h
  ·exact ih _ _ _ h
  ·split at h
   ·cases h
   ·exact ih _ _ _ h
theorem zni {s:ByteArray} {b d:Nat} {k:Int} {t:Tk} (h:nmR s b d k=.inl t):t.fr=b:=by
 unfold nmR at h
 cases hn:zbR s d (gtK k) with
 | inr e=>rw [hn] at h;cases h
 | inl n=>rw [hn] at h;cases h;rfl
theorem zoW {s:ByteArray} {b d:Nat} {t:Tk} (h:zcF s b d=.inl t):t.fr=b:=by
 unfold zcF at h
 split at h
 ·split at h
  ·cases h
  ·split at h <;> (cases h;rfl)
 ·cases h;rfl
theorem zku {s:ByteArray} {b:Nat} {t:Tk} (h:zbS s b=.inl t):t.fr=b:=by
 unfold zbS at h
 split at h
 ·cases h
 split at h
 ·exact zni h
 split at h
 ·exact zoW h
 ·cases h;rfl
theorem zoX {s:ByteArray} {b:Nat} {t:Tk} (h:zb6 s b=.inl t):t.fr=b:=by
 unfold zb6 at h
 split at h
 ·cases h
 split at h
 ·split at h
  ·cases h
  split at h
  ·cases h;rfl
  ·cases h
 ·split at h
  ·cases h;rfl
  ·cases h
theorem zoY {s:ByteArray} {b:Nat} {t:Tk} (h:zaL s b=.inl t):t.fr=b:=by
 unfold zaL at h
 split at h
 ·unfold zcE at h
  split at h
  ·cases h
  ·cases h;rfl
 split at h
 ·exact zni h
 split at h
 ·exact zmp _ _ _ _ _ _ _ h
 split at h
 ·cases hr:zap s b with
  | inr p =>
   rw [hr,clT] at h
   split at h <;> cases h
  | inl p=>rw [hr] at h;cases h;rfl
 split at h
 ·unfold zc2 at h
  split at h
  ·exact zoX h
  split at h
  ·exact zku h
  split at h
  ·cases h;rfl
  ·cases h
 ·exact zku h
def Chn (s:ByteArray) (i:Nat):List Tk->Prop
 | []=>zbE s i=s.size
 | t::l=>zbE s i<s.size/\zaL s (zbE s i)=.inl t/\∃e:Nat,t.en=e/\zbE s i<e/\e<=s.size/\Chn s e l
theorem chn_of (s:ByteArray):∀(f:Nat) (out:List Tk) (i:Nat) (l:List Tk),i<=s.size->s.size<f+zbE s i->zbT (zaL s) s f out (zbE s i)=.inl l->∃l2,l=out++l2/\Chn s i l2:=by
 intro f
 induction f with
 | zero=>intro out i l hi hf h;have:=(zcu hi).2;omega
 | succ f ih =>
  intro out i l hi hf h;have hb:=zcu hi;rw [zbT] at h;by_cases hlt:zbE s i<s.size
  ·rw [iP hlt] at h
   cases ho:zaL s (zbE s i) with
   | inr q=>rw [ho] at h;cases h
   | inl t =>
    rw [ho] at h;dsimp only at h;obtain ⟨e,e1,e2,e3⟩:=zg8 s _ t hlt ho;rw [e1,Int.toNat_natCast] at h;have hge:=zha s e e3;obtain ⟨l2,h2,h3⟩:=ih (out++[t]) e l e3 (by omega) h;refine ⟨t::l2,by rw [h2,List.append_assoc];rfl,hlt,ho,e,e1,e2,e3,h3⟩
  ·rw [iN hlt] at h
   cases h
   exact ⟨[],by rw [List.append_nil],by show zbE s i=s.size;omega⟩
theorem zhb {s:ByteArray} {l:List Tk} (h:zbf (zaL s) s=.inl l):s.size<=65536/\Chn s 0 l:=by
 unfold zbf at h
 split at h
 ·cases h
 ·next q =>
  obtain ⟨l2,h2,h3⟩:=chn_of s _ _ 0 l (by omega) (by have:=(zcu (s:=s) (i:=0) (by omega)).1;omega) h;rw [h2];exact ⟨by omega,h3⟩
def zmq (s:ByteArray):Bool:=decide (0<s.size)&&decide (s.size<=32)&&hdB (chr s 0)&&spN nmB s 0==s.size
def zS:Array Value:=Array.replicate 31 (.string ⟨#[]⟩)
theorem zoZ (w:World):(Instr.build 123 #[]).run Tryz.prog w=.ok (.agg zS) w:=by kernel_rfl
theorem zo0 (w:World):(Instr.alloc 123 true (.tuple #[])).run Tryz.prog w=.ok (.pointer (some ⟨w.heap.size,0,none⟩)) (w.alloc (.cells zS 123)):=by kernel_rfl
theorem zo1 (w:World):(Instr.storeAt 123 (.pointer (some ⟨w.heap.size,0,none⟩)) (.agg zS)).run Tryz.prog (w.alloc (.cells zS 123))=.ok () (w.alloc (.cells zS 123)):=run_storeAt_new w 123 zS zS (by kernel_rfl) rfl (by kernel_rfl)
theorem ze1 {ops:Array Oper} {rest:List Oper} {op:Oper} {a:Act} {w:World} {Q:Exit->Act->World->Prop} (hgd:op.guard=none) (ho:op.op=.build 123 #[])
  (h:wpList Tryz.prog ops Q rest (a.put op.dst (.agg zS)) w):wpList Tryz.prog ops Q (op::rest) a w :=
 wpList_plain hgd fun K hK=>by
  unfold Oper.wp execOp;simp only [ho,List.map_toArray,List.map_nil,Sem.run_bind,zoZ,Result.andThen_ok];exact hK _ _ h
theorem ze2 {ops:Array Oper} {rest:List Oper} {op:Oper} {a:Act} {w:World} {Q:Exit->Act->World->Prop} (hgd:op.guard=none) (ho:op.op=.alloc 123)
  (h:wpList Tryz.prog ops Q rest (a.put op.dst (.pointer (some ⟨w.heap.size,0,none⟩))) (w.alloc (.cells zS 123))):wpList Tryz.prog ops Q (op::rest) a w :=
 wpList_plain hgd fun K hK=>by
  unfold Oper.wp execOp;simp only [ho,Sem.run_bind,zo0,Result.andThen_ok];exact hK _ _ h
theorem ze3 {ops:Array Oper} {rest:List Oper} {op:Oper} {a:Act} {w:World} {Q:Exit->Act->World->Prop} (hgd:op.guard=none) (x y:Operand) (ho:op.op=.store 123 x y)
  (hx:a.eval x=.pointer (some ⟨w.heap.size,0,none⟩)) (hy:a.eval y=.agg zS)
  (h:wpList Tryz.prog ops Q rest (a.put op.dst undef) (w.alloc (.cells zS 123))):wpList Tryz.prog ops Q (op::rest) a (w.alloc (.cells zS 123)) :=
 wpList_plain hgd fun K hK=>by
  unfold Oper.wp execOp;simp only [ho,hx,hy,Sem.run_bind,zo1,Result.andThen_ok];exact hK _ _ h
structure ZX (W:World) (b:Nat) (c:Array Value):Prop where
 heap:W.heap[b]?=some (.cells c 123 (0,0))
theorem ZX.put {W:World} {b:Nat} {c:Array Value} (h:ZX W b c) (j:Nat) (v:Value):ZX (W.setCell ⟨b,j,none⟩ v) b (c.setIfInBounds j v):=⟨by
 rw [heap_setCell_same _ b j _ 123 v h.heap]⟩
theorem ZX.cell {W:World} {b:Nat} {c:Array Value} (h:ZX W b c) (j:Nat):W.cell? ⟨b,j,none⟩=c[j]?:=cell_of_row W b j _ 123 (0,0) h.heap
theorem ZX.fz {W:World} {b:Nat} {c:Array Value} (h:ZX W b c) (j:Nat):W.frozen? ⟨b,j,none⟩=false:=frozen_of_row W b j _ 123 h.heap
def finS:Array Value:=((((((((((((((((((zS.setIfInBounds 6 (.string ⟨#[60,45]⟩)).setIfInBounds 27 (.string ⟨#[45,62]⟩)).setIfInBounds 7 (.string ⟨#[47]⟩)).setIfInBounds 8 (.string ⟨#[38]⟩)).setIfInBounds 9 (.string ⟨#[33]⟩)).setIfInBounds 10 (.string ⟨#[63]⟩)).setIfInBounds 11 (.string ⟨#[42]⟩)).setIfInBounds 12 (.string ⟨#[43]⟩)).setIfInBounds 16 (.string ⟨#[40]⟩)).setIfInBounds 17 (.string ⟨#[41]⟩)).setIfInBounds 18 (.string ⟨#[46]⟩)).setIfInBounds 22 (.string ⟨#[58,125]⟩)).setIfInBounds 23 (.string ⟨#[123,124]⟩)).setIfInBounds 24 (.string ⟨#[124,125]⟩)).setIfInBounds 25 (.string ⟨#[123,126]⟩)).setIfInBounds 26 (.string ⟨#[126,125]⟩)).setIfInBounds 19 (.string ⟨#[123]⟩)).setIfInBounds 20 (.string ⟨#[125]⟩))
theorem zmr (k:Nat) (hk:k<=30):finS[k]?=some (.string ⟨(sgn k).toArray⟩):=by
 match k,hk with
 | 0,_=>rfl
 | 1,_=>rfl
 | 2,_=>rfl
 | 3,_=>rfl
 | 4,_=>rfl
 | 5,_=>rfl
 | 6,_=>rfl
 | 7,_=>rfl
 | 8,_=>rfl
 | 9,_=>rfl
 | 10,_=>rfl
 | 11,_=>rfl
 | 12,_=>rfl
 | 13,_=>rfl
 | 14,_=>rfl
 | 15,_=>rfl
 | 16,_=>rfl
 | 17,_=>rfl
 | 18,_=>rfl
 | 19,_=>rfl
 | 20,_=>rfl
 | 21,_=>rfl
 | 22,_=>rfl
 | 23,_=>rfl
 | 24,_=>rfl
 | 25,_=>rfl
 | 26,_=>rfl
 | 27,_=>rfl
 | 28,_=>rfl
 | 29,_=>rfl
 | 30,_=>rfl
 | n+31,h=>omega
theorem store9 {W:World} {b j:Nat} {c:Array Value} {u:Value} (h:ZX W b c) (hj:c[j]?=some u) (s:ByteArray):(Instr.storeAt 9 (.pointer (some ⟨b,j,none⟩)) (.string s)).run Tryz.prog W=.ok () (W.setCell ⟨b,j,none⟩ (.string s)):=by
 have h1:=(h.cell j).trans hj;have h2:=h.fz j;simp [Instr.storeAt,Instr.sureAddr,storeVar,go_sem,h1,h2]
theorem zgq {ops:Array Oper} {rest:List Oper} {op:Oper} {a:Act} {w W:World} {Q:Exit->Act->World->Prop} {b j:Nat} {c:Array Value} {u:Value} {s:ByteArray} (hgd:op.guard=none) (x y:Operand) (ho:op.op=.store 9 x y)
  (hx:a.eval x=.pointer (some ⟨b,j,none⟩)) (hy:a.eval y=.string s) (hz:ZX W b c/\bW w W) (hb:w.heap.size<=b) (hj:c[j]?=some u)
  (h:∀W',(ZX W' b (c.setIfInBounds j (.string s))/\bW w W')->wpList Tryz.prog ops Q rest (a.put op.dst undef) W'):wpList Tryz.prog ops Q (op::rest) a W :=
 wpList_plain hgd fun K hK=>by
  unfold Oper.wp execOp;simp only [ho,hx,hy,Sem.run_bind,store9 hz.1 hj,Result.andThen_ok];exact hK _ _ (h _ ⟨hz.1.put j _,hz.2.setCell (p:=⟨b,j,none⟩) hb _⟩)
theorem zo2 (k:Nat) (h1:1<=k) (h2:k<=30) (w:World):Cl 72 #[.int .i64 k] w (rB w (.string ⟨(sgn k).toArray⟩)):=by
 have HZ:Hid (ZX (w.alloc (.cells zS 123)) w.heap.size zS/\bW w (w.alloc (.cells zS 123))):=⟨⟨heap_alloc_new w _⟩,zaa w _⟩;have HC:Hid (∀W,ZX W w.heap.size finS->W.cell? ⟨w.heap.size,k,none⟩=some (.string ⟨(sgn k).toArray⟩)):=fun W h=>by rw [h.cell];exact zmr k h2
 have t1:¬(k:Int)<1:=by omega
 have t2:¬(30:Int)<(k:Int):=by omega
 have z0:(0:Int)<=(k:Int):=by omega
 have z1:(k:Int)<31:=by omega
 generalize ByteArray.mk (sgn k).toArray=tx at *;go_enter Tryz.func72,Tryz.ntmps72;go_wp2_with (first | refine ze1 rfl rfl ?_ | refine ze2 rfl rfl ?_ | (refine ze3 rfl _ _ rfl rfl rfl ?_;generalize w.alloc (.cells zS 123)=W1 at *) | (refine zgq rfl _ _ rfl rfl rfl HZ (nL _) rfl ?_;clear HZ;intro W1 hz;have HZ:=(show Hid _ from hz);clear hz;try (have hC:=HC _ HZ.1;clear HC)))
 go_ret
 exact ⟨rfl,HZ.2⟩
def txF (k:Int) (tx:ByteArray):Bool:=if k=1 then zmq tx else if k=21 then (tx.toList==[])||zmq tx else if k=2 then decide ((tx.size:Int)<=255) else if k=28 then ((tx.size:Int)==1) else (tx.toList==[])
def nbF (k n s0:Int):Bool:=decide (0<=n)&&decide (n<=if k=5 then s0 else gtK k)
def seF (k:Int) (tx:ByteArray) (s0 s1 s2 s3:Int):Bool:=if k=3 then true else if k=28 then ((cls (chr tx 0).toNat).2==0)&&(s0==wd (cls (chr tx 0).toNat).1 0&&(s1==wd (cls (chr tx 0).toNat).1 1&&(s2==wd (cls (chr tx 0).toNat).1 2&&s3==wd (cls (chr tx 0).toNat).1 3))) else if k=5 then decide (s0<=1114111)&&(s0==s0&&(s1==0&&(s2==0&&s3==0))) else (s0==0&&(s1==0&&(s2==0&&s3==0)))
def riF (t:Tk):Bool:=decide (1<=t.kd)&&decide (t.kd<=30)&&txF t.kd t.tx&&nbF t.kd t.nn t.s0&&seF t.kd t.tx t.s0 t.s1 t.s2 t.s3
structure TkB (t:Tk):Prop where
 n:t.nn<9223372036854775808
 u0:0<=t.s0
 u1:t.s0<18446744073709551616
 u2:0<=t.s1/\t.s1<18446744073709551616
 u3:0<=t.s2/\t.s2<18446744073709551616
 u4:0<=t.s3/\t.s3<18446744073709551616
theorem zhQ {s:ByteArray} (h:zmq s=true):0<s.size/\s.size<=32:=by
 unfold zmq at h;simp only [Bool.and_eq_true,decide_eq_true_eq] at h;exact ⟨h.1.1.1,h.1.1.2⟩
theorem gtK_le (k:Int):gtK k<=999999:=by unfold gtK;(repeat' split) <;> omega
structure Rgt (t:Tk):Prop where
 r:riF t=true
 b:TkB t
theorem Rgt.plain {k n a e:Int} {tx:ByteArray} (h:riF ⟨k,n,a,e,tx,0,0,0,0⟩=true) (hn:n<=1114111):Rgt ⟨k,n,a,e,tx,0,0,0,0⟩:=⟨h,⟨by show n<_;omega,by show (0:Int)<=0;omega,by show (0:Int)<_;omega,by show (0:Int)<=0/\(0:Int)<_;omega,by show (0:Int)<=0/\(0:Int)<_;omega,by show (0:Int)<=0/\(0:Int)<_;omega⟩⟩
theorem zdd (x:BitVec 256) (i:Nat):0<=wd x i/\wd x i<18446744073709551616:=by
 unfold wd;have:=(x.extractLsb' (64 * i) 64).isLt;omega
theorem znj {s:ByteArray} {b:Nat} (hh:hdB (chr s b)=true) (hle:¬32<spN nmB s b - b):zmq (s.extract b (spN nmB s b))=true:=by
 have hnm:nmB (chr s b)=true:=by unfold nmB;rw [hh];rfl
 obtain ⟨h1,h2⟩:=za8 (P:=nmB) (by decide) hnm;have h3:=zbe nmB s (by decide) (b+1);have h4:=zbF nmB s (by decide) b (by omega);obtain ⟨_,_,h6,h7⟩:=zbX nmB s (by decide) _ b rfl;generalize spN nmB s b=e at *;have hsz:(s.extract b e).size=e - b:=by rw [ByteArray.size_extract];omega
 have hc:∀k,k<e - b->chr (s.extract b e) k=chr s (b+k):=fun k hk=>zgE (by omega) h4
 unfold zmq;rw [hsz,decide_eq_true (by omega),decide_eq_true (by omega),hc 0 (by omega),Nat.add_zero,hh];have hr:spN nmB (s.extract b e) 0=e - b:=by
  refine spN_eq (by decide) (by omega) (fun k _ hk=>?_) ?_
  ·rw [hc k hk];exact h7 (b+k) (by omega) (by omega)
  ·rw [zau (by rw [hsz];omega)];decide
 rw [hr];simp
theorem zhR (s:ByteArray) (i:Nat) (base:Int) (hb:0<=base):∀k,(∀j,j<k->0<=zaI (chr s (i+j)))->0<=zaF s i base k:=by
 intro k
 induction k with
 | zero=>intro _;exact Int.le_refl _
 | succ k ih =>
  intro h;have h1:=ih (fun j hj=>h j (by omega));have h2:=h k (by omega);have h3:=Int.mul_nonneg h1 hb
  show 0<=zaF s i base k * base+zaI (chr s (i+k))
  omega
theorem znk {c:Int} (h:dgB c=true):0<=zaI c:=by
 unfold dgB at h;simp only [Bool.and_eq_true,decide_eq_true_eq] at h;unfold zaI;rw [iP h];omega
theorem hx_hex {c:Int} (h:hxB c=true):0<=zaI c:=by
 unfold hxB at h
 rcases Bool.or_eq_true_iff.1 h with h | h
 ·exact znk h
 ·simp only [Bool.and_eq_true,decide_eq_true_eq] at h
  unfold zaI;rw [iN (by omega),iP h];omega
theorem zo3 {s:ByteArray} {d:Nat} {m n:Int} (h:zbR s d m=.inl n):0<=n/\n<=m:=by
 unfold zbR at h
 split at h
 ·cases h
 split at h
 ·cases h
 ·next q1 q2 =>
  cases h
  obtain ⟨_,_,_,h7⟩:=zbX dgB s (by decide) _ d rfl;refine ⟨zhR _ _ _ (by omega) _ (fun j hj=>znk (h7 (d+j) (by omega) (by omega))),?_⟩;omega
theorem zkv {s:ByteArray} {b d:Nat} {k:Int} {t:Tk} (hk:k=4∨k=13∨k=14∨k=15) (h:nmR s b d k=.inl t):Rgt t:=by
 unfold nmR at h
 cases hn:zbR s d (gtK k) with
 | inr e=>rw [hn] at h;cases h
 | inl n =>
  rw [hn] at h
  cases h
  obtain ⟨h1,h2⟩:=zo3 hn;have h3:=gtK_le k;refine Rgt.plain ?_ (by omega);have em:((⟨#[]⟩:ByteArray).toList==[])=true:=by rw [ByteArray.toList_eq];rfl
  unfold riF txF nbF seF
  rcases hk with rfl | rfl | rfl | rfl <;> simp [] <;> omega
theorem zkw (s:ByteArray) (q:Int) (b:Nat):∀(f:Nat) (out:List Int) (i:Nat) (t:Tk),zbz s q b f out i=.inl t->Rgt t:=by
 intro f
 induction f with
 | zero=>intro out i t h;rw [zbz] at h;cases h
 | succ f ih =>
  intro out i t h;rw [zbz] at h
  split at h
  ·cases h
  split at h
  ·split at h
   ·cases h
   ·next q2 =>
    cases h
    refine Rgt.plain ?_ (by omega);unfold riF txF nbF seF gtK;have:=zbq out;simp
    omega
  split at h
  ·cases h
  split at h
  ·exact ih _ _ _ h
  ·split at h
   ·cases h
   ·exact ih _ _ _ h
theorem zo4 {a e:Int} {s:ByteArray} (h:zmq s=true):riF ⟨1,0,a,e,s,0,0,0,0⟩=true:=by
 unfold riF txF nbF seF gtK;simp [h]
theorem ri_grp {a e:Int} {s:ByteArray} (h:zmq s=true):riF ⟨21,0,a,e,s,0,0,0,0⟩=true:=by
 unfold riF txF nbF seF gtK;simp [h]
theorem zkx {a e:Int}:riF ⟨21,0,a,e,⟨#[]⟩,0,0,0,0⟩=true:=by
 have em:((⟨#[]⟩:ByteArray).toList==[])=true:=by rw [ByteArray.toList_eq];rfl
 unfold riF txF nbF seF gtK;simp []
theorem zms {s:ByteArray} {b d:Nat} {t:Tk} (h:zcF s b d=.inl t):Rgt t:=by
 unfold zcF at h
 split at h
 ·next hh =>
  split at h
  ·cases h
  ·next hl =>
   split at h
   ·cases h;exact Rgt.plain (ri_grp (znj hh hl)) (by omega)
   ·cases h;exact Rgt.plain zkx (by omega)
 ·cases h;exact Rgt.plain zkx (by omega)
def sgK (k:Int):Bool:=k==0||k==13||k==14||k==15||k==21||k==29||k==30||k==27||(decide (6<=k)&&decide (k<=12))||(decide (16<=k)&&decide (k<=20))||(decide (22<=k)&&decide (k<=26))
theorem sgC_in (c0 c1:Int):sgK (sgC c0 c1).1=true:=by
 have h:∀l:List (Int×List UInt8),(∀p∈l,sgK p.1=true)->sgK (zee c0 c1 l).1=true:=by
  intro l
  induction l with
  | nil=>intro _;rfl
  | cons p l ih =>
   intro h;rw [zee]
   split
   ·exact h p (List.mem_cons_self ..)
   ·exact ih (fun q hq=>h q (List.mem_cons_of_mem _ hq))
 rw [<-znh];exact h sgTab (by decide)
theorem ri_sig {k a e:Int} (h:sgK k=true) (h0:¬k=0) (h1:¬(k=13∨k=14∨k=15)) (h2:¬k=21):riF ⟨k,0,a,e,⟨#[]⟩,0,0,0,0⟩=true:=by
 have em:((⟨#[]⟩:ByteArray).toList==[])=true:=by rw [ByteArray.toList_eq];rfl
 simp only [sgK,Bool.or_eq_true,Bool.and_eq_true,beq_iff_eq,decide_eq_true_eq] at h;unfold riF txF nbF seF gtK;dsimp only;rw [iN (show ¬k=1 by omega),iN (show ¬k=21 by omega),iN (show ¬k=2 by omega),iN (show ¬k=28 by omega),iN (show ¬k=5 by omega),iN (show ¬k=4 by omega),iN h1,iN (show ¬k=3 by omega),iN (show ¬k=28 by omega),iN (show ¬k=5 by omega),em,decide_eq_true (show 1<=k by omega),decide_eq_true (show k<=30 by omega)];rfl
theorem zhS {s:ByteArray} {b:Nat} {t:Tk} (h:zbS s b=.inl t):Rgt t:=by
 have hi:=sgC_in (chr s b) (chr s (b+1));rw [<-zgp] at hi;unfold zbS at h
 split at h
 ·cases h
 split at h
 ·next q=>exact zkv (.inr q) h
 split at h
 ·exact zms h
 ·next h0 h1 h2=>cases h;exact Rgt.plain (ri_sig hi h0 h1 h2) (by omega)
theorem znl {n m a e:Int} (h0:0<=n) (h1:n<=m) (h2:m<=1114111):Rgt ⟨5,n,a,e,⟨#[]⟩,m,0,0,0⟩:=by
 have em:((⟨#[]⟩:ByteArray).toList==[])=true:=by rw [ByteArray.toList_eq];rfl
 refine ⟨?_,⟨by show n<_;omega,by show 0<=m;omega,by show m<_;omega,by show (0:Int)<=0/\(0:Int)<_;omega,by show (0:Int)<=0/\(0:Int)<_;omega,by show (0:Int)<=0/\(0:Int)<_;omega⟩⟩;unfold riF txF nbF seF;simp []
 omega
theorem zky {s:ByteArray} {a:Nat} (h:(ptP s a).2.2=true):0<=(ptP s a).1/\(ptP s a).1<=1114111:=by
 unfold ptP at h ⊢
 split at h
 ·cases h
 ·next q =>
  rw [iN q];obtain ⟨_,_,_,h7⟩:=zbX hxB s (by decide) _ a rfl;exact ⟨zhR _ _ _ (by omega) _ (fun j hj=>hx_hex (h7 (a+j) (by omega) (by omega))),of_decide_eq_true h⟩
theorem zmt {s:ByteArray} {b:Nat} {t:Tk} (h:zb6 s b=.inl t):Rgt t:=by
 unfold zb6 at h
 split at h
 ·cases h
 next q1 =>
 have p1:=zky (s:=s) (a:=b+3) (by simpa using q1)
 split at h
 ·split at h
  ·cases h
  next q2 =>
  have p2:=zky (s:=s) (a:=(ptP s (b+3)).2.1+1) (by
   by_cases q:(ptP s ((ptP s (b+3)).2.1+1)).2.2=false
   ·exact absurd (.inl q) q2
   ·simpa using q)
  split at h
  ·cases h;exact znl p1.1 (by omega) p2.2
  ·cases h
 ·split at h
  ·cases h;exact znl p1.1 (Int.le_refl _) p1.2
  ·cases h
theorem zmu {s:ByteArray} {b:Nat} {t:Tk} (_hb:b<s.size) (h:zaL s b=.inl t):Rgt t:=by
 unfold zaL at h
 split at h
 ·next hh =>
  unfold zcE at h
  split at h
  ·cases h
  ·next hl=>cases h;exact Rgt.plain (zo4 (znj hh hl)) (by omega)
 split at h
 ·exact zkv (.inl rfl) h
 split at h
 ·exact zkw _ _ _ _ _ _ _ h
 split at h
 ·cases hr:zap s b with
  | inr p =>
   rw [hr,clT] at h
   split at h <;> cases h
  | inl p =>
   rw [hr] at h
   cases h
   have em:((⟨#[]⟩:ByteArray).toList==[])=true:=by rw [ByteArray.toList_eq];rfl
   refine ⟨?_,⟨by show (0:Int)<_;omega,(zdd _ _).1,(zdd _ _).2,zdd _ _,zdd _ _,zdd _ _⟩⟩;unfold riF txF nbF seF gtK;simp []
 split at h
 ·unfold zc2 at h
  split at h
  ·exact zmt h
  split at h
  ·exact zhS h
  split at h
  ·next q =>
   cases h
   obtain ⟨q1,q2⟩:=q;refine ⟨?_,⟨by show (0:Int)<_;omega,(zdd _ _).1,(zdd _ _).2,zdd _ _,zdd _ _,zdd _ _⟩⟩;have hsz:(s.extract (b+1) (b+2)).size=1:=by rw [ByteArray.size_extract];omega
   have hc:chr (s.extract (b+1) (b+2)) 0=chr s (b+1):=by rw [zgE (by omega) (by omega)]
   unfold riF txF nbF seF gtK;dsimp only;rw [hc,hsz,q2];simp
  ·cases h
 ·exact zhS h
theorem zo5 (s:ByteArray):∀(l:List Tk) (i:Nat),Chn s i l->∀t∈l,Rgt t:=by
 intro l
 induction l with
 | nil=>intro i _ t ht;cases ht
 | cons a l ih =>
  intro i h t ht;obtain ⟨h1,h2,e,_,_,_,h3⟩:=h
  rcases List.mem_cons.1 ht with rfl | h4
  ·exact zmu h1 h2
  ·exact ih e h3 t h4
theorem zhc {s:ByteArray} {l:List Tk} (h:zbf (zaL s) s=.inl l):∀t∈l,Rgt t:=zo5 s l 0 (zhb h).2
theorem zkz (s:ByteArray) (q:Int) (b:Nat) (hb:b<=s.size):∀(f:Nat) (out:List Int) (i:Nat) (p:Nat×Int),zbz s q b f out i=.inr p->p.1<=s.size:=by
 intro f
 induction f with
 | zero=>intro out i p h;rw [zbz] at h;cases h;exact hb
 | succ f ih =>
  intro out i p h;rw [zbz] at h
  split at h
  ·cases h;exact hb
  next hc =>
  have hi:i<s.size:=zaB (by omega)
  split at h
  ·split at h
   ·cases h;exact hb
   ·cases h
  split at h
  ·cases h;exact Nat.le_of_lt hi
  split at h
  ·exact ih _ _ _ h
  ·split at h
   ·cases h;exact Nat.le_of_lt hi
   ·exact ih _ _ _ h
theorem zkA {s:ByteArray} {b d:Nat} {k:Int} {p:Nat×Int} (hb:b<=s.size) (h:nmR s b d k=.inr p):p.1<=s.size:=by
 unfold nmR at h
 cases hn:zbR s d (gtK k) with
 | inr e=>rw [hn] at h;cases h;exact hb
 | inl n=>rw [hn] at h;cases h
theorem zhT {s:ByteArray} {b:Nat} {p:Nat×Int} (hb:b<=s.size) (h:zbS s b=.inr p):p.1<=s.size:=by
 have hl:=zca s b hb;unfold zbS at h
 split at h
 ·cases h;exact hb
 split at h
 ·exact zkA hb h
 split at h
 ·unfold zcF at h
  split at h
  ·split at h
   ·cases h;exact hl
   ·split at h <;> cases h
  ·cases h
 ·cases h
theorem zmv {s:ByteArray} {b:Nat} {p:Nat×Int} (hb:b<=s.size) (h:zb6 s b=.inr p):p.1<=s.size:=by
 unfold zb6 at h
 split at h
 ·cases h;exact hb
 split at h
 ·split at h
  ·cases h;exact hb
  split at h
  ·cases h
  ·cases h;exact hb
 ·split at h
  ·cases h
  ·cases h;exact hb
theorem zmw {s:ByteArray} {b:Nat} {p:Nat×Int} (hb:b<=s.size) (h:zaL s b=.inr p):p.1<=s.size:=by
 unfold zaL at h
 split at h
 ·unfold zcE at h
  split at h
  ·cases h;exact hb
  ·cases h
 split at h
 ·exact zkA hb h
 split at h
 ·exact zkz _ _ _ hb _ _ _ _ h
 split at h
 ·cases hr:zap s b with
  | inl q=>rw [hr] at h;cases h
  | inr q =>
   rw [hr,clT] at h
   split at h
   ·cases h;exact hb
   ·cases h;exact zkt hr
 split at h
 ·unfold zc2 at h
  split at h
  ·exact zmv hb h
  split at h
  ·exact zhT hb h
  split at h
  ·cases h
  ·cases h;exact hb
 ·exact zhT hb h
theorem zkB (s:ByteArray):∀(f:Nat) (out:List Tk) (i:Nat) (p:Nat×Int),zbT (zaL s) s f out i=.inr p->p.1<=s.size/\p.2≠0:=by
 intro f
 induction f with
 | zero=>intro out i p h;rw [zbT] at h;cases h
 | succ f ih =>
  intro out i p h;rw [zbT] at h
  split at h
  ·next hi =>
   cases ho:zaL s i with
   | inr q=>rw [ho] at h;cases h;exact ⟨zmw (Nat.le_of_lt hi) ho,zg7 s i _ ho⟩
   | inl t=>rw [ho] at h;exact ih _ _ _ h
  ·cases h
theorem zeN {s:ByteArray} {p:Nat×Int} (h:zbf (zaL s) s=.inr p):p.1<=s.size/\p.2≠0:=by
 unfold zbf at h
 split at h
 ·cases h;exact ⟨Nat.zero_le _,by decide⟩
 ·exact zkB s _ _ _ _ h
theorem zo6 (s:ByteArray):∀(l:List Tk) (i:Nat),i<=s.size->Chn s i l->i+l.length<=s.size:=by
 intro l
 induction l with
 | nil=>intro i hi _;simpa using hi
 | cons a l ih =>
  intro i hi h;obtain ⟨h1,_,e,_,h3,h4,h5⟩:=h;have h6:=ih e h4 h5;have h7:=zha s i hi;rw [List.length_cons];omega
theorem zkC {s:ByteArray} {l:List Tk} (h:zbf (zaL s) s=.inl l):l.length<=65536:=by
 obtain ⟨h1,h2⟩:=zhb h;have:=zo6 s l 0 (by omega) h2;omega
end Go.Proofs.YtkihfkcmcdiajabGreatDoor
namespace Go.Proofs.YtkihfkcmcdiajabGreatDoor.N
open Go.RowKit
structure GW (W:World):Prop where
 s:SG W
 v:R.VB W
theorem GW.later {W W':World} (h:GW W) (hb:bW W W'):GW W':=⟨h.s.later hb,h.v.below hb h.v.lt⟩
theorem zde {s:ByteArray} {l:List Tk} (h:zbf (zaL s) s=.inl l):OkE (mkE l):=by
 have hr:=zhc h;refine ⟨zkC h,rfl,rfl,fun t ht hk=>?_,fun t ht=>?_,fun t ht hk=>?_⟩
 ·have h1:=(hr t ht).r
  have h2:=(hr t ht).b;unfold riF nbF seF at h1;rw [iP hk,iN (by omega),iN (by omega),iP hk] at h1;simp only [Bool.and_eq_true,decide_eq_true_eq] at h1;omega
 ·have h1:=(hr t ht).r
  unfold riF txF at h1;simp only [Bool.and_eq_true,decide_eq_true_eq] at h1;have h2:=h1.1.1.2;have emp:∀{x:ByteArray},(x.toList==[])=true->x.size<=65536:=fun {x} hx=>by
   rw [beq_iff_eq,ByteArray.toList_eq] at hx;have:x.data.toList.length=0:=by rw [hx];rfl
   have h3:x.size=x.data.toList.length:=by simp
   omega
  split at h2
  ·have:=zhQ h2;omega
  ·split at h2
   ·rw [Bool.or_eq_true] at h2
    rcases h2 with h2 | h2
    ·exact emp h2
    ·have:=zhQ h2;omega
   ·split at h2
    ·have:=of_decide_eq_true h2;omega
    ·split at h2
     ·have:=beq_iff_eq.1 h2;omega
     ·exact emp h2
 ·have h1:=(hr t ht).r
  unfold riF nbF at h1;rw [iN (by omega)] at h1;simp only [Bool.and_eq_true,decide_eq_true_eq] at h1;have h2:=h1.1.2
  rcases hk with hk | hk | hk <;> rw [hk] at h2 <;> (have h3:t.nn<=0:=h2.2;omega)
theorem zd7 (s:ByteArray) (w:World) (hg:GW w) (q:Nat×Int) (hq:zbf (zaL s) s=.inr q) (hne:¬q.2=0):Cl 19 #[.string s] w fun e w'=>e=pnc q.1 q.2/\bW w w':=by
 have HL:Hid (∀_:Unit,Cl 31 #[.string s] w (rB w (.tuple #[.slice none 0 0,.agg #[.int .i64 q.1,.int .i64 q.2]]))):=fun _=>by
  have:=zhP s w hg.s;rw [hq] at this;exact this
 have HU:Hid (∀a c W,Cl 32 #[.int .i64 a,.int .i64 c] W fun e W'=>e=pnc a c/\W'=W):=fun a c W=>zcZ a c W
 have t1:(q.2 != 0)=true:=by simpa using hne
 clear hg hq hne;go_enter Tryz.func19,Tryz.ntmps19;go_wp2_with fail;refine (HL ()).mono ?_;rintro e w1 ⟨rfl,hb⟩;have HB:Hid (bW w w1):=hb;clear hb HL;go_wp2_with fail;refine (HU _ _ _).mono ?_;rintro e w2 ⟨rfl,rfl⟩;exact zah rfl ⟨rfl,HB.alloc HB.size _⟩
theorem zcW (s:ByteArray) (w:World) (hg:GW w) (l:List Tk) (hl:zbf (zaL s) s=.inl l):Cl 19 #[.string s] w fun e w'=>∃b tv,e=.returned (.pointer (some ⟨b,0,none⟩))/\RS (mkE l) s.size w w' b tv 0 0 (.slice none 0 0) []:=by
 have hlen:=zkC hl;obtain ⟨i0,hinf,hz0,hz1,hz2⟩:=info_parts Tryz.info36;have HL:Hid (∀_:Unit,Cl 31 #[.string s] w fun e w'=>(∃v,e=.returned (.tuple #[v,.agg #[.int .i64 0,.int .i64 0]])/\w'.ownsRow w.heap.size 69 9 v l.length (tkc l))/\bW w w'):=fun _=>by
  have:=zhP s w hg.s;rw [hl] at this;exact this
 have HTk:Hid (zhy (mkE l) s.size=l++[enT s.size]):=rfl;clear hg hl;go_enter Tryz.func19,Tryz.ntmps19;go_wp2_with fail;refine (HL ()).mono ?_;rintro e w1 ⟨⟨v,rfl,ho⟩,hb⟩;have HB:Hid (bW w w1):=hb;clear hb HL;have hO2:=ho.alloc (.cells #[.int .i64 0,.int .i64 0] 27);have hs1:=HB.size;go_wp2_with (at_builtin;refine wpList_append_lies _ rfl _ _ 40 rfl w.heap.size 69 i0 (tkG tk0) 9 80 Tryz.underlying40 hinf hz0 hz1 hz2 rfl (by decide) _ _ _ rfl (hO2.alloc _) ⟨w1.heap.size+1,0,none⟩ 1 1 (tkV (enT s.size)) rfl rfl ?c1 (zjg _) (by decide) ?c3 ?c4 ?c5 (w1.heap.size+1+1) (by simp) ?_)
 case c1 =>
  have hh:=heap_alloc_new (w1.alloc (.cells #[.int .i64 0,.int .i64 0] 27)) (.cells (tkC (enT s.size)) 69);rw [sA] at hh;exact World.news_of_block (cs:=tkC (enT s.size)) (t:=69) (fr:=(0,0)) hh
 case c3=>unfold maxLen;omega
 case c4=>omega
 case c5=>rw [sA,sA];omega
 intro g cap w4 hown hgrow hat hlt4;have hbl:bW w w4:=((HB.alloc hs1 _).alloc (by rw [sA];omega) _).grown hgrow (by rw [sA,sA];omega) (fun k e=>(ho.lt k e).1);have HR:=(show Hid (∃b tv,w4.heap.size=b/\Value.slice (some ⟨g,0,none⟩) (l.length+1) cap=tv/\RS (mkE l) s.size w (w4.alloc (.cells #[.slice (some ⟨g,0,none⟩) (l.length+1) cap,.int .i64 0,.int .i64 0,.slice none 0 0] 80)) b tv 0 0 (.slice none 0 0) []) from
  ⟨_,_,rfl,rfl,⟨hbl.alloc hbl.size _,hbl.size,⟨heap_alloc_new w4 _⟩,by
   have h1:=hown.alloc (.cells #[.slice (some ⟨g,0,none⟩) (l.length+1) cap,.int .i64 0,.int .i64 0,.slice none 0 0] 80);rw [HTk.out,lA,List.length_singleton,zdR,zgJ];exact h1,World.ownsRow_nil _ _ _ _,Nat.zero_le _,Nat.zero_le _⟩⟩)
 clear hown hgrow hat hlt4 hbl ho hO2;go_wp2_with fail;go_ret
 obtain ⟨b,tv,h1,h2,h3⟩:=HR.out;exact ⟨b,tv,by rw [<-h1];rfl,h3⟩
theorem zkD {E:PE} (hE:OkE E) {z:Nat} {w0:World} (hv:R.VB w0) {b:Nat} {tv:Value} {i:Nat} {W:World} {v:Value} {L:List Nd} (h:RS E z w0 W b tv i 0 v L) (q:Nat×Int) (hq:exN E i=.inr q):Cl 37 #[.pointer (some ⟨b,0,none⟩)] W fun e W'=>e=pnc (plA E z q.1) q.2/\bW w0 W':=by
 have hi:=h.hi;have H1:Hid (RS E z w0 (W.setCell ⟨b,3,none⟩ (.slice none 0 0)) b tv i 0 (.slice none 0 0) []):=h.s3 (World.ownsRow_nil _ _ _ _);have HX:Hid (∀W,RS E z w0 W b tv i 0 (.slice none 0 0) []->Cl 63 #[.pointer (some ⟨b,0,none⟩)] W fun e W'=>e=pnc (plA E z q.1) q.2/\bW w0 W'):=fun W h=>by
  have:=zjO hE hv (z:=z) (b:=b) (tv:=tv) (d:=0) hi W _ _ h (Nat.zero_le _);rw [zlB,hq] at this;exact this
 obtain ⟨k0,k1,k2,k3⟩:=h.x.cl;have f3:=h.x.fz 3;clear h hE hv hq;go_enter Tryz.func37,Tryz.ntmps37;go_wp2_with fail;refine (HX _ H1.out).mono ?_;rintro e w1 ⟨rfl,hb⟩;exact zah rfl ⟨rfl,hb⟩
theorem zhd {E:PE} (hE:OkE E) {z:Nat} {w0:World} (hv:R.VB w0) {b:Nat} {tv:Value} {i:Nat} {W:World} {v:Value} {L:List Nd} (h:RS E z w0 W b tv i 0 v L) (a:Nat) (ns:List Nd) (hq:exN E i=.inl (a,ns)):Cl 37 #[.pointer (some ⟨b,0,none⟩)] W fun e W'=>∃v',e=.returned v'/\RS E z w0 W' b tv a 0 v' ns/\Fr W W' b (.slice none 0 0) v':=by
 have hi:=h.hi;have H1:Hid (RS E z w0 (W.setCell ⟨b,3,none⟩ (.slice none 0 0)) b tv i 0 (.slice none 0 0) []):=h.s3 (World.ownsRow_nil _ _ _ _);have HF1:Hid (Fr W (W.setCell ⟨b,3,none⟩ (.slice none 0 0)) b (.slice none 0 0) (.slice none 0 0)):=Fr.set _ _ _ _ _;have HX:Hid (∀W,RS E z w0 W b tv i 0 (.slice none 0 0) []->Cl 63 #[.pointer (some ⟨b,0,none⟩)] W fun e W'=>e=.returned (.tuple #[])/\∃v',RS E z w0 W' b tv a 0 v' ns/\Fr W W' b (.slice none 0 0) v'):=fun W h=>by
  have:=zjO hE hv (z:=z) (b:=b) (tv:=tv) (d:=0) hi W _ _ h (Nat.zero_le _);rw [zlB,hq] at this;exact this
 obtain ⟨k0,k1,k2,k3⟩:=h.x.cl;have f3:=h.x.fz 3;clear h hE hv hq;go_enter Tryz.func37,Tryz.ntmps37;go_wp2_with fail;refine (HX _ H1.out).mono ?_;rintro e w1 ⟨rfl,v1,h1,hf1⟩;have H2:=hO h1;have HF2:Hid (Fr W w1 b (.slice none 0 0) v1):=HF1.trans hf1;clear h1 hf1 H1 HF1 HX k0 k1 k2 k3 f3;obtain ⟨k0,k1,k2,k3⟩:=H2.x.cl;go_wp2_with fail;go_ret
 exact ⟨v1,rfl,H2.out,HF2.out⟩
end Go.Proofs.YtkihfkcmcdiajabGreatDoor.N
