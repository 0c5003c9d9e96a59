/- DERIVED. Plain mathematics and walks, laid together (13). -/
import Derived.Deep.WholeRow
import Derived.Deep.MidRow
import Derived.BigQuiet
import Derived.Deep.RegionHeld3
import Derived.Test.YtkihfkcmcdiajaaGreatDoorCards
import Derived.Test.YtkihfkcmcdiajaaGreatDoorTie
import Derived.WalkKit
import Derived.ProofKit
import Derived.OpenShut
import Derived.ShutString
import Derived.ChangeOld
import Derived.ChangeSame
import Derived.SizedLaws
import Derived.FnData
import Derived.Deep.DeepHandedRow
import Derived.Lib.LaidTab
import Derived.Test.YtkihfkcmcdiajaaGreatDoorPl12
set_option maxRecDepth 100000
set_option maxHeartbeats 8000000
namespace Go.Proofs.YtkihfkcmcdiajaaGreatDoor
open Go.RowKit
def LxP (w w':World) (r:Sum (List Tk) (Nat×Int)) (e:Ending):Prop:=match r with
 | .inr q=>e=.returned (.tuple #[.slice none 0 0,.agg #[.int .i64 q.1,.int .i64 q.2]])
 | .inl l=>∃v,e=.returned (.tuple #[v,.agg #[.int .i64 0,.int .i64 0]])/\w'.ownsRow w.heap.size 79 9 v l.length (tkc l)
structure AtY (w W:World) (s:ByteArray) (v:Value) (out:List Tk) (i f:Nat):Prop where
 b:Below w.heap.size w W
 x:FX W w.heap.size 0 0
 g:SG W
 o:W.ownsRow w.heap.size 79 9 v out.length (tkc out)
 hi:i<=s.size
 hf:s.size<f+zbD s i
 he:zbT (zaN s) s f out (zbD s i)=zbi (zaN s) s
 hl:out.length<=i
theorem zog {W:World} {B n b:Nat} {v:Value} {xs:List Value} {p q:Int} (h:W.ownsRow B 79 9 v n xs) (hx:FX W b p q) (p' q':Int):(stF W b p' q').ownsRow B 79 9 v n xs:=by
 refine ⟨h.1,?_⟩
 rcases h.2 with hn | ⟨g,cap,cur,rfl,hB,hgg,rest⟩
 ·exact .inl hn
 ·refine .inr ⟨g,cap,cur,rfl,hB,?_,rest⟩
  have hne:g≠b:=by
   rintro rfl;rw [hx.heap] at hgg
   injection hgg with h1
   injection h1 with h2 h3
   cases h3
  rw [zeo p' q' hne];exact hgg
theorem own_ne {W:World} {B n b:Nat} {v:Value} {xs:List Value} {p q:Int} (h:W.ownsRow B 79 9 v n xs) (hx:FX W b p q):v.ownBlock≠some b:=by
 rcases h.2 with ⟨rfl,_⟩ | ⟨g,cap,cur,rfl,hB,hgg,rest⟩
 ·intro q;cases q
 ·intro q
  cases q
  rw [hx.heap] at hgg
  injection hgg with h1
  injection h1 with h2 h3
  cases h3
theorem FX.grown {W W':World} {b:Nat} {p e:Int} {row:Option Nat} (h:FX W b p e) (hg:W.grownBy W' row) (hne:row≠some b):FX W' b p e:=⟨(hg.block b h.lt (fun e=>hne e.symm)).trans h.heap⟩
theorem zdw {B:Nat} {w W:World} {b:Nat} (h:Below B w W) (hb:B<=b) (p q:Int):Below B w (stF W b p q):=(h.setCell (p:=⟨b,0,none⟩) hb _).setCell (p:=⟨b,1,none⟩) hb _
theorem zd0 {fn:Func} {R:Ending->World->Prop} {a:Act} {W:World} {b:Nat} {p e:Int} {v:Value} (hF:fn.results=#[.tmp 2,.cell 3 27]) (hd:a.defers=[]) (h2:a.tmps.getD 2 undef=v) (h3:a.tmps.getD 3 undef=.pointer (some ⟨b,0,none⟩)) (hT:FX W b p e) (hR:R (.returned (.tuple #[v,.agg #[.int .i64 p,.int .i64 e]])) W):bodyPost Tryz.prog fn R .ret a W:=by
 have c0:=hT.c0;have c1:=hT.c1;refine bodyPost_ret (v:=.tuple #[v,.agg #[.int .i64 p,.int .i64 e]]) ?_ hd hR;simp only [Array.getD_eq_getD_getElem?] at h2 h3;simp [results,hF,go_sem,h2,h3,c0,c1]
theorem zoh (s:ByteArray) (hs:s.size<=65536)
  (H2:∀b t,b<s.size->zaN s b=.inl t->∃e:Nat,t.en=e/\b<e/\e<=s.size) (H3:∀b q,zaN s b=.inr q->q.2≠0) (w:World) (hg:SG w) :
  Calls Tryz.prog 44 #[.string s] w fun e w'=>LxP w w' (zbi (zaN s) s) e/\Below w.heap.size w w':=by
 have t1:¬(65536:Int)<(s.size:Int):=by omega
 obtain ⟨i0,hinf,hz0,hz1,hz2⟩:=info_parts Tryz.info36;have HB:Hid (∀k w,k<=s.size->Cl 76 #[.string s,.int .i64 ((k:Nat):Int)] w (rU w (.int .i64 (spN blB s k)))):=fun k w hk=>zhX s k (by omega) hk w
 have HLn:Hid (∀k w,k<=s.size->Cl 78 #[.string s,.int .i64 ((k:Nat):Int)] w (rU w (.int .i64 (spN lnB s k)))):=fun k w hk=>zgE s k (by omega) hk w
 have HS:Hid (∀k w,k<=s.size->Cl 77 #[.string s,.int .i64 ((k:Nat):Int),.string ⟨#[45,45]⟩] w (rU w (.bool (pfx s k [45,45])))):=fun k w hk=>zax s k ⟨#[45,45]⟩ hk w
 have HO:Hid (∀b w,b<s.size->SG w->Cl 79 #[.string s,.int .i64 ((b:Nat):Int)] w (rB w (za0 (zaN s b)))):=fun b w hb g=>zfJ s b hs hb w g
 have HE:Hid ((∀b t,b<s.size->zaN s b=.inl t->∃e:Nat,t.en=e/\b<e/\e<=s.size)/\∀b q,zaN s b=.inr q->q.2≠0):=⟨H2,H3⟩;have HG0:Hid (SG w):=hg;have H0:=(show Hid (AtY w (w.alloc (fxO 0 0)) s (.slice none 0 0) [] 0 (s.size+1)) from
  ⟨zaa _ _,⟨heap_alloc_new w _⟩,hg.later (zaa _ _),World.ownsRow_nil _ _ _ _,by omega,by have:=(zcs (s:=s) (i:=0) (by omega)).1;omega,by unfold zbi;rw [iN (by omega)],nL _⟩)
 clear H2 H3 hg;go_enter Tryz.func44,Tryz.ntmps44;go_wp2_with fail;refine zeN 2 0 (fun a' W=>∃(out:List Tk) (i f:Nat) (v u6 u7 u8 u9 u10 u11 u12 u13 u14 u15 u16 u17 u18 u19 u20 u21 u22 u23 u24 u25 u26 u27 u28 u29 u30 u31 u32 u33 u34 u35 u36 u37 u38 u39 u40 u41 u42 u43 u44:Value),a'={ tmps:=#[.string s,undef,.slice none 0 0,.pointer (some ⟨w.heap.size,0,none⟩),v,.int .i64 i,u6,u7,u8,u9,u10,u11,u12,u13,u14,u15,u16,u17,u18,u19,u20,u21,u22,u23,u24,u25,u26,u27,u28,u29,u30,u31,u32,u33,u34,u35,u36,u37,u38,u39,u40,u41,u42,u43,u44],defers:=[] }/\Hid (AtY w W s v out i f)) (fun a' _=>s.size - (intOf (a'.tmps.getD 5 undef)).toNat) rfl ?_ ?_
 case refine_2 =>
  rintro a' W ⟨out,i,f,v,u6,u7,u8,u9,u10,u11,u12,u13,u14,u15,u16,u17,u18,u19,u20,u21,u22,u23,u24,u25,u26,u27,u28,u29,u30,u31,u32,u33,u34,u35,u36,u37,u38,u39,u40,u41,u42,u43,u44,rfl,HW⟩;clear H0;have hi:=HW.hi;have hf:=HW.hf;have hol:=HW.hl;have hge:=zbc blB s (by decide) i;have hle:=zbE blB s (by decide) i hi;have HBi:=(show Hid _ from fun w=>HB i w hi);have HSi:=(show Hid _ from fun w=>HS (spN blB s i) w hle);have HLi:=(show Hid _ from fun w=>HLn (spN blB s i) w hle);have HGe:Hid (spN blB s i=s.size->zbD s i=s.size):=fun h=>zlS h
  have HGn:Hid (chr s (spN blB s i)=45->chr s (spN blB s i+1)=45->zbD s i=zbD s (spN lnB s (spN blB s i))/\spN blB s i<spN lnB s (spN blB s i)):=fun a b=>zj4 a b
  have HGh:Hid (spN blB s i<s.size->¬(chr s (spN blB s i)=45/\chr s (spN blB s i+1)=45)->zbD s i=spN blB s i):=fun a b=>zj5 a b
  have hle2:=zbE lnB s (by decide) (spN blB s i) hle;generalize hp:spN blB s i=p at *;clear HB HS HLn hp;by_cases hend:p=s.size
  ·have HV:Hid (zbi (zaN s) s=.inl out):=by
    show zbi (zaN s) s=_
    rw [<-HW.he,HGe hend];obtain ⟨f,rfl⟩:∃g,f=g+1:=⟨f - 1,by have:=HGe hend;omega⟩;rw [zbT,iN (by omega)]
   have v1:((p:Int)==(s.size:Int))=true:=by rw [hend];exact beq_self_eq_true _
   have f0:=HW.x.f0;have f1':=HW.x.f1;have c0:=HW.x.c0;have c1:=HW.x.c1;clear HSi HLi HGe HGn HGh HO HE hend;go_wp2_with fail;refine (HBi _).mono ?_;rintro e W ⟨rfl,rfl⟩;clear HBi;go_wp2_with fail;refine zd0 rfl rfl rfl rfl (zfT HW.x 0 0) ⟨?_,zdw HW.b (nL _) 0 0⟩;rw [HV.out];exact ⟨v,rfl,zog HW.o HW.x 0 0⟩
  have v1:((p:Int)==(s.size:Int))=false:=by rw [beq_eq_false_iff_ne];omega
  have hplt:p<s.size:=by omega
  by_cases hn:chr s p=45/\chr s (p+1)=45
  ·obtain ⟨hg1,hg2⟩:=HGn hn.1 hn.2
   have hpf:pfx s p [45,45]=true:=by
    show (chr s p==45&&(chr s (p+1)==45&&true))=true
    rw [hn.1,hn.2];rfl
   rw [hpf] at HSi;generalize spN lnB s p=q at *;have HW2:Hid (AtY w W s v out q f):=⟨HW.b,HW.x,HW.g,HW.o,hle2,by have:=HW.hf;rw [hg1] at this;exact this,by rw [<-hg1];exact HW.he,by have:=HW.hl;omega⟩;clear HGe HGn HGh HO HE hend hn hg1 hpf HW;go_wp2_with fail;refine (HBi _).mono ?_;rintro e W ⟨rfl,rfl⟩;clear HBi;go_wp2_with fail;refine (HSi _).mono ?_;rintro e W ⟨rfl,rfl⟩;clear HSi;go_wp2_with fail;go_step3
   simp (config:={ zetaDelta:=true }) only [zbB,zcP]
   refine zf9 rfl ?_;go_wp2_with fail;refine (HLi _).mono ?_;rintro e W ⟨rfl,rfl⟩;clear HLi;go_wp2_with fail;go_step3
   simp (config:={ zetaDelta:=true }) only [zbB]
   refine zjy ⟨⟨out,q,f,v,_,_,_,_,_,_,_,_,_,_,_,_,_,_,_,_,_,_,_,_,_,_,_,_,_,_,_,_,_,_,_,_,_,_,_,_,_,_,_,rfl,HW2⟩,?_⟩;simp [intOf]
   omega
  ·have hg1:=HGh hplt hn
   have hpf:pfx s p [45,45]=false:=by
    show (chr s p==45&&(chr s (p+1)==45&&true))=false
    by_cases h1:chr s p=45
    ·have h2:¬chr s (p+1)=45:=fun q=>hn ⟨h1,q⟩
     rw [bF h2];simp
    ·rw [bF h1];rfl
   rw [hpf] at HSi;have HOp:Hid (∀w,SG w->Cl 79 #[.string s,.int .i64 ((p:Nat):Int)] w (rB w (za0 (zaN s p)))):=fun w g=>HO p w hplt g
   obtain ⟨f,rfl⟩:∃g,f=g+1:=⟨f - 1,by omega⟩;have HU:Hid (zbi (zaN s) s=match zaN s p with
    | .inr q=>.inr q
    | .inl t=>zbT (zaN s) s f (out++[t]) (zbD s t.en.toNat)):=by show zbi (zaN s) s=_;rw [<-HW.he,zbT,hg1,iP hplt];cases zaN s p <;> rfl
   cases ho:zaN s p with
   | inr q =>
    have hne:=HE.2 p q ho;have HV:Hid (zbi (zaN s) s=.inr q):=by show zbi (zaN s) s=_;rw [HU.out,ho]
    rw [ho] at HOp;have t3:(q.2 != 0)=true:=by rw [bne,bF hne];rfl
    clear HGe HGn HGh HO HE hend hn hg1 hpf HLi HU ho hne;go_wp2_with fail;refine (HBi _).mono ?_;rintro e W ⟨rfl,rfl⟩;clear HBi;go_wp2_with fail;refine (HSi _).mono ?_;rintro e W ⟨rfl,rfl⟩;clear HSi;go_wp2_with fail;go_step3
    simp (config:={ zetaDelta:=true }) only [zbB,zcP]
    refine zf9 rfl ?_;go_wp2_with fail;refine (HOp _ HW.g).mono ?_;rintro e w3 ⟨rfl,b3⟩;have HB5:=(show Hid (Below w.heap.size w ((w3.alloc (tkO tk0)).alloc (fxO q.1 q.2))/\FX ((w3.alloc (tkO tk0)).alloc (fxO q.1 q.2)) w.heap.size 0 0/\FX ((w3.alloc (tkO tk0)).alloc (fxO q.1 q.2)) (w3.heap.size+1) q.1 q.2) from
     ⟨(((HW.b.trans (b3.mono HW.b.size)).alloc (Nat.le_trans HW.b.size b3.size) _).alloc (by rw [sA];have:=HW.b.size;have:=b3.size;omega) _),((HW.x.below b3).below (zaa _ _)).below (zaa _ _),⟨by
      have h:=heap_alloc_new (w3.alloc (tkO tk0)) (fxO q.1 q.2);(try unfold rB at h);rw [sA] at h;exact h⟩⟩)
    have hlt3:=(HW.x.below b3).lt;have ne1:¬w3.heap.size+1=w.heap.size:=by omega
    have ne2:¬w.heap.size=w3.heap.size+1:=by omega
    clear b3 HW HOp;unfold za0 zaQ;go_wp2_with fail;generalize (w3.alloc (tkO tk0)).alloc (fxO q.1 q.2)=w5 at *;have f0:=HB5.2.1.f0;have f1':=HB5.2.1.f1;have c0:=HB5.2.1.c0;have c1:=HB5.2.1.c1;have k0:=HB5.2.2.c0;have k1:=HB5.2.2.c1;go_region
    all_goals
     go_wp2_with fail;simp only [zdt];refine zd0 rfl rfl rfl rfl ((zfT HB5.2.1 q.1 q.2).below (bR _ _).drew) ⟨?_,(zdw HB5.1 (nL _) q.1 q.2).drew⟩;rw [HV.out];exact rfl
   | inl t =>
    obtain ⟨en,he1,he2,he3⟩:=HE.1 p t hplt ho;have HV:Hid (zbT (zaN s) s f (out++[t]) (zbD s en)=zbi (zaN s) s):=by show _=zbi (zaN s) s;rw [HU.out,ho];show _=zbT (zaN s) s f (out++[t]) (zbD s t.en.toNat);rw [he1];rfl
    have hgb:=zcs he3;have HEn:Hid (t.en=(en:Int)):=he1;clear he1;rw [ho] at HOp;clear HGe HGn HGh HO HE hend hn hpf HLi HU ho;go_wp2_with fail;refine (HBi _).mono ?_;rintro e W ⟨rfl,rfl⟩;clear HBi;go_wp2_with fail;refine (HSi _).mono ?_;rintro e W ⟨rfl,rfl⟩;clear HSi;go_wp2_with fail;go_step3
    simp (config:={ zetaDelta:=true }) only [zbB,zcP]
    refine zf9 rfl ?_;go_wp2_with fail;refine (HOp _ HW.g).mono ?_;rintro e w3 ⟨rfl,b3⟩;have hO:w3.ownsRow w.heap.size 79 9 v out.length (tkc out):=zk0 HW.o b3;have HB3:Hid (Below w.heap.size w w3/\FX w3 w.heap.size 0 0/\SG w3):=⟨HW.b.trans (b3.mono HW.b.size),HW.x.below b3,HW.g.later b3⟩;have hs3:=HB3.1.size;have HX:Hid (TX ((w3.alloc (tkO t)).alloc (fxO 0 0)) w3.heap.size t):=(TX.new w3 t).below (zaa _ _);clear b3 HOp HW;unfold za0 zaQ;obtain ⟨c0,c1,c2,c3,c4,c5,c6,c7,c8⟩:=HX.cells;go_wp2_with (at_builtin;refine wpList_append_lies _ rfl _ _ 42 rfl w.heap.size 79 i0 (tkG tk0) 9 80 Tryz.underlying42 hinf hz0 hz1 hz2 rfl (by decide) _ _ _ rfl (((hO.alloc _).alloc _).alloc _) ⟨w3.heap.size+1+1,0,none⟩ 1 1 (tkV t) rfl rfl ?c1 (ziY _) (by decide) ?c3 ?c4 ?c5 (w3.heap.size+1+1+1) (by simp) ?_)
    case c1 =>
     have hh:=heap_alloc_new ((w3.alloc (tkO t)).alloc (fxO 0 0)) (.cells (tkC t) 79);rw [sA,sA] at hh;exact World.news_of_block (cs:=tkC t) (t:=79) (fr:=(0,0)) hh
    case c3=>unfold maxLen;omega
    case c4=>omega
    case c5=>first | omega | (simp;omega)
    intro g3 cap w4 hown hgrow hat _;have hgo:∀k,v.ownBlock=some k->w.heap.size<=k/\k<w3.heap.size:=fun k e=>hO.lt k e
    have hne4:=own_ne hO HB3.2.1;have HX4:Hid (TX w4 w3.heap.size t):=(HX.below (zaa _ _)).grown hgrow (fun e=>by have:=(hgo _ e).2;omega);have hb4:Below w.heap.size w w4:=(((HB3.1.alloc hs3 _).alloc (by rw [sA];omega) _).alloc (by rw [sA,sA];omega) _).grown hgrow (by rw [sA,sA,sA];omega) (fun k e=>(hgo k e).1);have HW4:=(show Hid (AtY w w4 s (.slice (some ⟨g3,0,none⟩) (out.length+1) cap) (out++[t]) en f) from by
     refine ⟨hb4,(((HB3.2.1.below (zaa _ _)).below (zaa _ _)).below (zaa _ _)).grown hgrow hne4,HG0.below hb4 HG0.lt,?_,he3,by rw [hg1] at hf;omega,HV.out,by rw [lA,List.length_singleton];omega⟩;rw [lA,List.length_singleton,zdN,zgB];exact hown)
    have e3:=HX4.cells.c3;rw [HEn.out] at e3;clear hown hgrow hat hgo hO HB3 HX HV c0 c1 c2 c3 c4 c5 c6 c7 c8 hne4 hb4 HX4;go_wp2_with fail;go_step3
    simp (config:={ zetaDelta:=true }) only []
    refine zjy ⟨⟨out++[t],en,f,_,_,_,_,_,_,_,_,_,_,_,_,_,_,_,_,_,_,_,_,_,_,_,_,_,_,_,_,_,_,_,_,_,_,_,_,_,_,_,_,rfl,HW4⟩,?_⟩;simp [intOf]
    omega
 case refine_1 =>
  intro hpass;have HPs:=hO hpass;clear hpass;go_wp2_with fail;go_step3
  rename_i hK
  refine hK _ _ ?_;refine HPs _ _ ?_;exact ⟨[],0,s.size+1,.slice none 0 0,_,_,_,_,_,_,_,_,_,_,_,_,_,_,_,_,_,_,_,_,_,_,_,_,_,_,_,_,_,_,_,_,_,_,_,_,_,_,_,rfl,H0⟩
theorem zj7 (s:ByteArray) (hs:65536<s.size) (w:World):Calls Tryz.prog 44 #[.string s] w fun e w'=>LxP w w' (zbi (zaN s) s) e/\Below w.heap.size w w':=by
 have t1:(65536:Int)<(s.size:Int):=by omega
 have HE:Hid (zbi (zaN s) s=.inr (0,2)):=by show zbi (zaN s) s=_;unfold zbi;rw [iP hs]
 go_enter Tryz.func44,Tryz.ntmps44;go_wp2_with fail;refine zaT 1 0 rfl ?_;go_wp2_with fail;simp only [zdt];refine zd0 (b:=w.heap.size) (p:=0) (e:=2) rfl rfl rfl rfl ⟨heap_alloc_new w _⟩ ⟨?_,zaa _ _⟩;rw [HE.out];exact rfl
theorem zlT (s:ByteArray) (q:Int) (b:Nat) (hq:0<=q):∀(f:Nat) (out:List Int) (i:Nat) (t:Tk),zby s q b f out i=.inl t->∃e:Nat,t.en=e/\i<e/\e<=s.size:=by
 intro f
 induction f with
 | zero=>intro out i t h;rw [zby] at h;cases h
 | succ f ih =>
  intro out i t h;rw [zby] at h
  split at h
  ·cases h
  next h0 =>
  split at h
  next h1 =>
   split at h
   ·cases h
   ·cases h
    have:=zaz (s:=s) (i:=i) (by omega);exact ⟨i+1,rfl,by omega,by omega⟩
  split at h
  ·cases h
  split at h
  ·obtain ⟨e,h1,h2,h3⟩:=ih _ _ _ h
   exact ⟨e,h1,by omega,h3⟩
  ·split at h
   ·cases h
   ·next c n he =>
    have h4:=zj1 he;obtain ⟨e,h1,h2,h3⟩:=ih _ _ _ h;exact ⟨e,h1,by omega,h3⟩
theorem zlU (s:ByteArray) (q:Int) (b:Nat):∀(f:Nat) (out:List Int) (i:Nat) (p:Nat×Int),zby s q b f out i=.inr p->p.2≠0:=by
 intro f
 induction f with
 | zero=>intro out i p h;rw [zby] at h;cases h;simp
 | succ f ih =>
  intro out i p h;rw [zby] at h
  split at h
  ·cases h;simp
  split at h
  ·split at h
   ·cases h;simp
   ·cases h
  split at h
  ·cases h;simp
  split at h
  ·exact ih _ _ _ h
  ·split at h
   ·cases h;simp
   ·exact ih _ _ _ h
theorem zoi {s:ByteArray} {d:Nat} {m n:Int} (h:zbR s d m=.inl n):d<spN dgB s d:=by
 unfold zbR at h
 split at h
 ·cases h
 ·omega
theorem zmP {s:ByteArray} {b d:Nat} {k:Int} {t:Tk} (hd:d<=s.size) (h:nmR s b d k=.inl t):∃e:Nat,t.en=e/\d<e/\e<=s.size:=by
 unfold nmR at h
 cases hn:zbR s d (gtK k) with
 | inr e=>rw [hn] at h;cases h
 | inl n =>
  rw [hn] at h
  cases h
  exact ⟨_,rfl,zoi hn,zbE dgB s (by decide) d hd⟩
theorem zoj {s:ByteArray} {d:Nat} {m e:Int} (h:zbR s d m=.inr e):e≠0:=by
 unfold zbR at h
 split at h
 ·cases h;simp
 ·split at h
  ·cases h;simp
  ·cases h
theorem zmQ {s:ByteArray} {b d:Nat} {k:Int} {q:Nat×Int} (h:nmR s b d k=.inr q):q.2≠0:=by
 unfold nmR at h
 cases hn:zbR s d (gtK k) with
 | inr e=>rw [hn] at h;cases h;exact zoj hn
 | inl n=>rw [hn] at h;cases h
theorem zlV {s:ByteArray} {b:Nat} {q:Nat×Int} (h:zcB s b=.inr q):q.2≠0:=by
 unfold zcB at h
 split at h
 ·cases h;simp
 ·cases h
theorem zok {s:ByteArray} {b d:Nat} {q:Nat×Int} (h:zcD s b d=.inr q):q.2≠0:=by
 unfold zcD at h
 split at h
 ·split at h
  ·cases h;simp
  ·split at h <;> cases h
 ·cases h
theorem zol {s:ByteArray} {b d:Nat} {t:Tk} (hd:d<=s.size) (h:zcD s b d=.inl t):∃e:Nat,t.en=e/\d<=e/\e<=s.size:=by
 unfold zcD at h
 split at h
 ·split at h
  ·cases h
  ·split at h
   ·next hc =>
    cases h
    have h1:=zbc nmB s (by decide) d;have h2:=zaz (s:=s) (i:=spN nmB s d) (by omega);exact ⟨_,rfl,by omega,by omega⟩
   ·cases h;exact ⟨d,rfl,nL _,hd⟩
 ·cases h;exact ⟨d,rfl,nL _,hd⟩
theorem zlW (s:ByteArray) (i:Nat):∀l:List (Int×List UInt8),(∀p∈l,p.1≠0/\1<=p.2.length)->(zhA s i l).1=0∨1<=(zhA s i l).2.length:=by
 intro l
 induction l with
 | nil=>intro _;exact .inl rfl
 | cons p l ih =>
  intro h;rw [zhA]
  split
  ·exact .inr (h p (List.mem_cons_self ..)).2
  ·exact ih (fun q hq=>h q (List.mem_cons_of_mem _ hq))
theorem zlX (s:ByteArray) (i:Nat):(zaw s i).1=0∨1<=(zaw s i).2.length:=zlW s i sgTab (by decide)
theorem zj8 {s:ByteArray} {b:Nat} {t:Tk} (hb:b<=s.size) (h:zbS s b=.inl t):∃e:Nat,t.en=e/\b<e/\e<=s.size:=by
 have h1:=zca s b hb;have h2:=zlX s b;unfold zbS at h
 split at h
 ·cases h
 next h0 =>
 have h3:1<=(zaw s b).2.length:=by rcases h2 with q | q;exact absurd q h0;exact q
 split at h
 ·obtain ⟨e,a1,a2,a3⟩:=zmP h1 h
  exact ⟨e,a1,by omega,a3⟩
 split at h
 ·obtain ⟨e,a1,a2,a3⟩:=zol h1 h
  exact ⟨e,a1,by omega,a3⟩
 ·cases h
  exact ⟨_,rfl,by omega,h1⟩
theorem zj9 {s:ByteArray} {b:Nat} {q:Nat×Int} (h:zbS s b=.inr q):q.2≠0:=by
 unfold zbS at h
 split at h
 ·cases h;simp
 split at h
 ·exact zmQ h
 split at h
 ·exact zok h
 ·cases h
theorem zom {s:ByteArray} {b:Nat} {t:Tk} (hb:b+3<=s.size) (h:zb6 s b=.inl t):∃e:Nat,t.en=e/\b<e/\e<=s.size:=by
 have h1:=zcl hb;unfold zb6 at h
 split at h
 ·cases h
 split at h
 ·next h45 =>
  have h2:=zaz (s:=s) (i:=(ptP s (b+3)).2.1) (by omega);have h3:=zcl (s:=s) (a:=(ptP s (b+3)).2.1+1) (by omega)
  split at h
  ·cases h
  split at h
  ·next hc =>
   cases h
   have h4:=zaz (s:=s) (i:=(ptP s ((ptP s (b+3)).2.1+1)).2.1) (by omega);exact ⟨_,rfl,by omega,by omega⟩
  ·cases h
 ·split at h
  ·next hc =>
   cases h
   have h4:=zaz (s:=s) (i:=(ptP s (b+3)).2.1) (by omega);exact ⟨_,rfl,by omega,by omega⟩
  ·cases h
theorem zon {s:ByteArray} {b:Nat} {q:Nat×Int} (h:zb6 s b=.inr q):q.2≠0:=by
 unfold zb6 at h
 split at h
 ·cases h;simp
 split at h
 ·split at h
  ·cases h;simp
  split at h
  ·cases h
  ·cases h;simp
 ·split at h
  ·cases h
  ·cases h;simp
theorem zoo {s:ByteArray} {b:Nat} {t:Tk} (hb:b<=s.size) (h:zcY s b=.inl t):∃e:Nat,t.en=e/\b<e/\e<=s.size:=by
 unfold zcY at h
 split at h
 ·next hp=>exact zom (zgP hb hp) h
 split at h
 ·exact zj8 hb h
 split at h
 ·next hc=>cases h;exact ⟨_,rfl,by omega,by omega⟩
 ·cases h
theorem zop {s:ByteArray} {b:Nat} {q:Nat×Int} (h:zcY s b=.inr q):q.2≠0:=by
 unfold zcY at h
 split at h
 ·exact zon h
 split at h
 ·exact zj9 h
 split at h
 ·cases h
 ·cases h;simp
theorem zg0 (s:ByteArray) (b:Nat) (q:Nat×Int) (h:zaN s b=.inr q):q.2≠0:=by
 unfold zaN at h
 split at h
 ·exact zlV h
 split at h
 ·exact zmQ h
 split at h
 ·exact zlU _ _ _ _ _ _ _ h
 split at h
 ·unfold clT at h
  cases hr:zap s b with
  | inl p=>rw [hr] at h;cases h
  | inr p =>
   obtain ⟨a,c⟩:=p;rw [hr] at h;have hne:=zeC hr;dsimp only at h
   split at h
   ·cases h;simp
   ·cases h;exact hne
 split at h
 ·exact zop h
 ·exact zj9 h
theorem zka {s:ByteArray} {i:Nat} {x:BitVec 256} {n:Nat} (h:zap s i=.inl (x,n)):i<n:=by
 unfold zap at h
 split at h
 ·simp at h
 ·split at h
  ·split at h
   ·cases hm:zaf s (s.size+1) 0#256 ((i:Int).toNat+2) with
    | inr pq =>
     obtain ⟨a',c'⟩:=pq;rw [hm] at h;simp [zcR] at h
    | inl p=>obtain ⟨y,m⟩:=p;have b:=zbs hm;rw [hm] at h;simp only [zcR,Sum.inl.injEq,Prod.mk.injEq] at h;omega
   ·cases hm:zaf s (s.size+1) 0#256 ((i:Int).toNat+1) with
    | inr pq =>
     obtain ⟨a',c'⟩:=pq;rw [hm] at h;simp [zfG] at h
    | inl p=>obtain ⟨y,m⟩:=p;have b:=zbs hm;rw [hm] at h;simp only [zfG,Sum.inl.injEq,Prod.mk.injEq] at h;omega
  ·simp at h
theorem zg1 (s:ByteArray) (b:Nat) (t:Tk) (hb:b<s.size) (h:zaN s b=.inl t):∃e:Nat,t.en=e/\b<e/\e<=s.size:=by
 unfold zaN at h
 split at h
 ·next hh =>
  unfold zcB at h
  split at h
  ·cases h
  ·cases h
   have h1:=(za5 (P:=nmB) (s:=s) (i:=b) (by decide) (by unfold nmB;rw [hh];rfl)).2;have h2:=zbc nmB s (by decide) (b+1);exact ⟨_,rfl,by omega,zbE nmB s (by decide) b (by omega)⟩
 split at h
 ·exact zmP (by omega) h
 split at h
 ·next hq =>
  obtain ⟨e,a1,a2,a3⟩:=zlT s _ b (by omega) _ _ _ _ h;exact ⟨e,a1,by omega,a3⟩
 split at h
 ·cases hr:zap s b with
  | inr p =>
   rw [hr,clT] at h
   split at h <;> cases h
  | inl p =>
   obtain ⟨x,n⟩:=p;rw [hr] at h
   cases h
   exact ⟨n,rfl,zka hr,zjS hr⟩
 split at h
 ·exact zoo (by omega) h
 ·exact zj8 (by omega) h
theorem zhD (s:ByteArray) (w:World) (hg:SG w):Calls Tryz.prog 44 #[.string s] w fun e w'=>LxP w w' (zbi (zaN s) s) e/\Below w.heap.size w w':=by
 by_cases hs:s.size<=65536
 ·exact zoh s hs (fun b t hb h=>zg1 s b t hb h) (fun b q h=>zg0 s b q h) w hg
 ·exact zj7 s (by omega) w
theorem zg2 {s:ByteArray} {i a:Nat} {c:Int} (hi:i<=s.size) (h:zab s i=.inr (a,c)):a<=s.size:=by
 unfold zab at h
 split at h
 ·unfold zaV at h
  split at h
  ·simp at h
  ·simp only [Sum.inr.injEq,Prod.mk.injEq] at h;omega
 ·split at h
  ·simp only [Sum.inr.injEq,Prod.mk.injEq] at h;omega
  ·rename_i lo m hm
   split at h
   ·rename_i hc
    have hlt:m<s.size:=zaz (by rw [hc];omega)
    split at h
    ·simp only [Sum.inr.injEq,Prod.mk.injEq] at h;omega
    ·split at h
     ·simp only [Sum.inr.injEq,Prod.mk.injEq] at h;omega
     ·simp at h
   ·simp at h
theorem zd1 {s:ByteArray}:∀{f:Nat} {x:BitVec 256} {i a:Nat} {c:Int},i<=s.size->zaf s f x i=.inr (a,c)->a<=s.size:=by
 intro f
 induction f with
 | zero=>intro x i a c hi h;simp only [zaf,Sum.inr.injEq,Prod.mk.injEq] at h;omega
 | succ f ih =>
  intro x i a c hi h;by_cases hc:chr s i=93
  ·rw [zbh hc] at h;simp at h
  ·cases hm:zab s i with
   | inr pq =>
    obtain ⟨a',c'⟩:=pq;rw [zay hc hm] at h;simp only [Sum.inr.injEq,Prod.mk.injEq] at h;rw [<-h.1];exact zg2 hi hm
   | inl p=>obtain ⟨y,n⟩:=p;rw [zaA hc hm] at h;exact ih (zc9 hm).2 h
theorem zkb {s:ByteArray} {i:Int} {a:Nat} {c:Int} (h:zap s i=.inr (a,c)):a<=s.size:=by
 unfold zap at h
 split at h
 ·simp only [Sum.inr.injEq,Prod.mk.injEq] at h;omega
 ·rename_i hr
  split at h
  ·rename_i h1
   have hlt:i.toNat<s.size:=zaz (by rw [h1];omega)
   split at h
   ·rename_i h2
    have hlt2:i.toNat+1<s.size:=zaz (by rw [h2];omega)
    cases hm:zaf s (s.size+1) 0#256 (i.toNat+2) with
    | inr pq =>
     obtain ⟨a',c'⟩:=pq;rw [hm] at h;simp only [zcR,Sum.inr.injEq,Prod.mk.injEq] at h;rw [<-h.1];exact zd1 (by omega) hm
    | inl p=>rw [hm] at h;simp [zcR] at h
   ·cases hm:zaf s (s.size+1) 0#256 (i.toNat+1) with
    | inr pq =>
     obtain ⟨a',c'⟩:=pq;rw [hm] at h;simp only [zfG,Sum.inr.injEq,Prod.mk.injEq] at h;rw [<-h.1];exact zd1 (by omega) hm
    | inl p=>rw [hm] at h;simp [zfG] at h
  ·simp only [Sum.inr.injEq,Prod.mk.injEq] at h;omega
theorem spN_eq {P:Int->Bool} {s:ByteArray} (hn:P (-1)=false) {i e:Nat} (hie:i<=e) (h:∀k,i<=k->k<e->P (chr s k)=true) (he:P (chr s e)=false):spN P s i=e:=by
 obtain ⟨h1,_,h3,h4⟩:=zbX P s hn _ i rfl;by_cases q:spN P s i<e
 ·rw [h _ h1 q] at h3;cases h3
 ·by_cases q2:e<spN P s i
  ·rw [h4 e hie q2] at he;cases he
  ·omega
theorem zg3 (s:ByteArray) (i:Nat) (h:i<=s.size):i<=zbD s i:=(zcs h).1
def sgC (c0 c1:Int):Int×List UInt8 :=
 if c0=37 then (if c1=101 then (29,[37,101]) else if c1=102 then (30,[37,102]) else (0,[]))
 else if c0=94 then (if c1=43 then (14,[94,43]) else if c1=45 then (15,[94,45]) else (13,[94]))
 else if c0=60 then (if c1=45 then (6,[60,45]) else (0,[]))
 else if c0=45 then (if c1=62 then (27,[45,62]) else (0,[]))
 else if c0=47 then (7,[47])
 else if c0=38 then (8,[38])
 else if c0=33 then (9,[33])
 else if c0=63 then (10,[63])
 else if c0=42 then (11,[42])
 else if c0=43 then (12,[43])
 else if c0=40 then (16,[40])
 else if c0=41 then (17,[41])
 else if c0=46 then (18,[46])
 else if c0=123 then (if c1=58 then (21,[123,58]) else if c1=124 then (23,[123,124]) else if c1=126 then (25,[123,126]) else (19,[123]))
 else if c0=58 then (if c1=125 then (22,[58,125]) else (0,[]))
 else if c0=124 then (if c1=125 then (24,[124,125]) else (0,[]))
 else if c0=126 then (if c1=125 then (26,[126,125]) else (0,[]))
 else if c0=125 then (20,[125]) else (0,[])
def pfC (c0 c1:Int):List UInt8->Bool
 | []=>true
 | [x]=>c0==(x.toNat:Int)
 | x::y::_=>c0==(x.toNat:Int)&&c1==(y.toNat:Int)
def zd8 (c0 c1:Int):List (Int×List UInt8)->Int×List UInt8
 | []=>(0,[])
 | p::l=>if pfC c0 c1 p.2=true then p else zd8 c0 c1 l
theorem pfx_C (s:ByteArray) (b:Nat) (l:List UInt8) (h:l.length<=2):pfx s b l=pfC (chr s b) (chr s (b+1)) l:=by
 match l,h with
 | [],_=>rfl
 | [x],_=>show (chr s b==(x.toNat:Int)&&true)=_;rw [Bool.and_true];rfl
 | [x,y],_=>show (chr s b==(x.toNat:Int)&&(chr s (b+1)==(y.toNat:Int)&&true))=_;rw [Bool.and_true];rfl
theorem sgGo_C (s:ByteArray) (b:Nat):∀l:List (Int×List UInt8),(∀p∈l,p.2.length<=2)->zhA s b l=zd8 (chr s b) (chr s (b+1)) l:=by
 intro l
 induction l with
 | nil=>intro _;rfl
 | cons p l ih =>
  intro h;rw [zhA,zd8,pfx_C s b p.2 (h p (List.mem_cons_self ..)),ih (fun q hq=>h q (List.mem_cons_of_mem _ hq))]
theorem zmR (c0 c1:Int):zd8 c0 c1 sgTab=sgC c0 c1:=by
 unfold sgC;by_cases h37:c0=37
 ·subst h37;simp [sgTab,zd8,pfC]
  try (by_cases a1:c1=101 <;> by_cases a2:c1=102 <;> by_cases a3:c1=43 <;> by_cases a4:c1=45 <;> by_cases a5:c1=62 <;> by_cases a6:c1=58 <;> by_cases a7:c1=124 <;> by_cases a8:c1=126 <;> by_cases a9:c1=125 <;> simp [*])
 by_cases h94:c0=94
 ·subst h94;simp [sgTab,zd8,pfC]
  try (by_cases a1:c1=101 <;> by_cases a2:c1=102 <;> by_cases a3:c1=43 <;> by_cases a4:c1=45 <;> by_cases a5:c1=62 <;> by_cases a6:c1=58 <;> by_cases a7:c1=124 <;> by_cases a8:c1=126 <;> by_cases a9:c1=125 <;> simp [*])
 by_cases h60:c0=60
 ·subst h60;simp [sgTab,zd8,pfC]
  try (by_cases a1:c1=101 <;> by_cases a2:c1=102 <;> by_cases a3:c1=43 <;> by_cases a4:c1=45 <;> by_cases a5:c1=62 <;> by_cases a6:c1=58 <;> by_cases a7:c1=124 <;> by_cases a8:c1=126 <;> by_cases a9:c1=125 <;> simp [*])
 by_cases h45:c0=45
 ·subst h45;simp [sgTab,zd8,pfC]
  try (by_cases a1:c1=101 <;> by_cases a2:c1=102 <;> by_cases a3:c1=43 <;> by_cases a4:c1=45 <;> by_cases a5:c1=62 <;> by_cases a6:c1=58 <;> by_cases a7:c1=124 <;> by_cases a8:c1=126 <;> by_cases a9:c1=125 <;> simp [*])
 by_cases h47:c0=47
 ·subst h47;simp [sgTab,zd8,pfC]
  try (by_cases a1:c1=101 <;> by_cases a2:c1=102 <;> by_cases a3:c1=43 <;> by_cases a4:c1=45 <;> by_cases a5:c1=62 <;> by_cases a6:c1=58 <;> by_cases a7:c1=124 <;> by_cases a8:c1=126 <;> by_cases a9:c1=125 <;> simp [*])
 by_cases h38:c0=38
 ·subst h38;simp [sgTab,zd8,pfC]
  try (by_cases a1:c1=101 <;> by_cases a2:c1=102 <;> by_cases a3:c1=43 <;> by_cases a4:c1=45 <;> by_cases a5:c1=62 <;> by_cases a6:c1=58 <;> by_cases a7:c1=124 <;> by_cases a8:c1=126 <;> by_cases a9:c1=125 <;> simp [*])
 by_cases h33:c0=33
 ·subst h33;simp [sgTab,zd8,pfC]
  try (by_cases a1:c1=101 <;> by_cases a2:c1=102 <;> by_cases a3:c1=43 <;> by_cases a4:c1=45 <;> by_cases a5:c1=62 <;> by_cases a6:c1=58 <;> by_cases a7:c1=124 <;> by_cases a8:c1=126 <;> by_cases a9:c1=125 <;> simp [*])
 by_cases h63:c0=63
 ·subst h63;simp [sgTab,zd8,pfC]
  try (by_cases a1:c1=101 <;> by_cases a2:c1=102 <;> by_cases a3:c1=43 <;> by_cases a4:c1=45 <;> by_cases a5:c1=62 <;> by_cases a6:c1=58 <;> by_cases a7:c1=124 <;> by_cases a8:c1=126 <;> by_cases a9:c1=125 <;> simp [*])
 by_cases h42:c0=42
 ·subst h42;simp [sgTab,zd8,pfC]
  try (by_cases a1:c1=101 <;> by_cases a2:c1=102 <;> by_cases a3:c1=43 <;> by_cases a4:c1=45 <;> by_cases a5:c1=62 <;> by_cases a6:c1=58 <;> by_cases a7:c1=124 <;> by_cases a8:c1=126 <;> by_cases a9:c1=125 <;> simp [*])
 by_cases h43:c0=43
 ·subst h43;simp [sgTab,zd8,pfC]
  try (by_cases a1:c1=101 <;> by_cases a2:c1=102 <;> by_cases a3:c1=43 <;> by_cases a4:c1=45 <;> by_cases a5:c1=62 <;> by_cases a6:c1=58 <;> by_cases a7:c1=124 <;> by_cases a8:c1=126 <;> by_cases a9:c1=125 <;> simp [*])
 by_cases h40:c0=40
 ·subst h40;simp [sgTab,zd8,pfC]
  try (by_cases a1:c1=101 <;> by_cases a2:c1=102 <;> by_cases a3:c1=43 <;> by_cases a4:c1=45 <;> by_cases a5:c1=62 <;> by_cases a6:c1=58 <;> by_cases a7:c1=124 <;> by_cases a8:c1=126 <;> by_cases a9:c1=125 <;> simp [*])
 by_cases h41:c0=41
 ·subst h41;simp [sgTab,zd8,pfC]
  try (by_cases a1:c1=101 <;> by_cases a2:c1=102 <;> by_cases a3:c1=43 <;> by_cases a4:c1=45 <;> by_cases a5:c1=62 <;> by_cases a6:c1=58 <;> by_cases a7:c1=124 <;> by_cases a8:c1=126 <;> by_cases a9:c1=125 <;> simp [*])
 by_cases h46:c0=46
 ·subst h46;simp [sgTab,zd8,pfC]
  try (by_cases a1:c1=101 <;> by_cases a2:c1=102 <;> by_cases a3:c1=43 <;> by_cases a4:c1=45 <;> by_cases a5:c1=62 <;> by_cases a6:c1=58 <;> by_cases a7:c1=124 <;> by_cases a8:c1=126 <;> by_cases a9:c1=125 <;> simp [*])
 by_cases h123:c0=123
 ·subst h123;simp [sgTab,zd8,pfC]
  try (by_cases a1:c1=101 <;> by_cases a2:c1=102 <;> by_cases a3:c1=43 <;> by_cases a4:c1=45 <;> by_cases a5:c1=62 <;> by_cases a6:c1=58 <;> by_cases a7:c1=124 <;> by_cases a8:c1=126 <;> by_cases a9:c1=125 <;> simp [*])
 by_cases h58:c0=58
 ·subst h58;simp [sgTab,zd8,pfC]
  try (by_cases a1:c1=101 <;> by_cases a2:c1=102 <;> by_cases a3:c1=43 <;> by_cases a4:c1=45 <;> by_cases a5:c1=62 <;> by_cases a6:c1=58 <;> by_cases a7:c1=124 <;> by_cases a8:c1=126 <;> by_cases a9:c1=125 <;> simp [*])
 by_cases h124:c0=124
 ·subst h124;simp [sgTab,zd8,pfC]
  try (by_cases a1:c1=101 <;> by_cases a2:c1=102 <;> by_cases a3:c1=43 <;> by_cases a4:c1=45 <;> by_cases a5:c1=62 <;> by_cases a6:c1=58 <;> by_cases a7:c1=124 <;> by_cases a8:c1=126 <;> by_cases a9:c1=125 <;> simp [*])
 by_cases h126:c0=126
 ·subst h126;simp [sgTab,zd8,pfC]
  try (by_cases a1:c1=101 <;> by_cases a2:c1=102 <;> by_cases a3:c1=43 <;> by_cases a4:c1=45 <;> by_cases a5:c1=62 <;> by_cases a6:c1=58 <;> by_cases a7:c1=124 <;> by_cases a8:c1=126 <;> by_cases a9:c1=125 <;> simp [*])
 by_cases h125:c0=125
 ·subst h125;simp [sgTab,zd8,pfC]
  try (by_cases a1:c1=101 <;> by_cases a2:c1=102 <;> by_cases a3:c1=43 <;> by_cases a4:c1=45 <;> by_cases a5:c1=62 <;> by_cases a6:c1=58 <;> by_cases a7:c1=124 <;> by_cases a8:c1=126 <;> by_cases a9:c1=125 <;> simp [*])
 simp [sgTab,zd8,pfC, *]
theorem zgg (s:ByteArray) (b:Nat):zaw s b=sgC (chr s b) (chr s (b+1)):=by
 rw [<-zmR];exact sgGo_C s b sgTab (by decide)
theorem zlY (s:ByteArray) (q:Int) (b:Nat):∀(f:Nat) (out:List Int) (i:Nat) (t:Tk),zby s q b f out i=.inl t->t.fr=b:=by
 intro f
 induction f with
 | zero=>intro out i t h;rw [zby] at h;cases h
 | succ f ih =>
  intro out i t h;rw [zby] at h
  split at h
  ·cases h
  split at h
  ·split at h
   ·cases h
   ·cases h;rfl
  split at h
  ·cases h
  split at h
  ·exact ih _ _ _ h
  ·split at h
   ·cases h
   ·exact ih _ _ _ h
theorem zmS {s:ByteArray} {b d:Nat} {k:Int} {t:Tk} (h:nmR s b d k=.inl t):t.fr=b:=by
 unfold nmR at h
 cases hn:zbR s d (gtK k) with
 | inr e=>rw [hn] at h;cases h
 | inl n=>rw [hn] at h;cases h;rfl
theorem zoq {s:ByteArray} {b d:Nat} {t:Tk} (h:zcD s b d=.inl t):t.fr=b:=by
 unfold zcD at h
 split at h
 ·split at h
  ·cases h
  ·split at h <;> (cases h;rfl)
 ·cases h;rfl
theorem zkc {s:ByteArray} {b:Nat} {t:Tk} (h:zbS s b=.inl t):t.fr=b:=by
 unfold zbS at h
 split at h
 ·cases h
 split at h
 ·exact zmS h
 split at h
 ·exact zoq h
 ·cases h;rfl
theorem zor {s:ByteArray} {b:Nat} {t:Tk} (h:zb6 s b=.inl t):t.fr=b:=by
 unfold zb6 at h
 split at h
 ·cases h
 split at h
 ·split at h
  ·cases h
  split at h
  ·cases h;rfl
  ·cases h
 ·split at h
  ·cases h;rfl
  ·cases h
theorem zos {s:ByteArray} {b:Nat} {t:Tk} (h:zaN s b=.inl t):t.fr=b:=by
 unfold zaN at h
 split at h
 ·unfold zcB at h
  split at h
  ·cases h
  ·cases h;rfl
 split at h
 ·exact zmS h
 split at h
 ·exact zlY _ _ _ _ _ _ _ h
 split at h
 ·cases hr:zap s b with
  | inr p =>
   rw [hr,clT] at h
   split at h <;> cases h
  | inl p=>rw [hr] at h;cases h;rfl
 split at h
 ·unfold zcY at h
  split at h
  ·exact zor h
  split at h
  ·exact zkc h
  split at h
  ·cases h;rfl
  ·cases h
 ·exact zkc h
def Chn (s:ByteArray) (i:Nat):List Tk->Prop
 | []=>zbD s i=s.size
 | t::l=>zbD s i<s.size/\zaN s (zbD s i)=.inl t/\∃e:Nat,t.en=e/\zbD s i<e/\e<=s.size/\Chn s e l
theorem chn_of (s:ByteArray):∀(f:Nat) (out:List Tk) (i:Nat) (l:List Tk),i<=s.size->s.size<f+zbD s i->zbT (zaN s) s f out (zbD s i)=.inl l->∃l2,l=out++l2/\Chn s i l2:=by
 intro f
 induction f with
 | zero=>intro out i l hi hf h;have:=(zcs hi).2;omega
 | succ f ih =>
  intro out i l hi hf h;have hb:=zcs hi;rw [zbT] at h;by_cases hlt:zbD s i<s.size
  ·rw [iP hlt] at h
   cases ho:zaN s (zbD s i) with
   | inr q=>rw [ho] at h;cases h
   | inl t =>
    rw [ho] at h;dsimp only at h;obtain ⟨e,e1,e2,e3⟩:=zg1 s _ t hlt ho;rw [e1,Int.toNat_natCast] at h;have hge:=zg3 s e e3;obtain ⟨l2,h2,h3⟩:=ih (out++[t]) e l e3 (by omega) h;refine ⟨t::l2,by rw [h2,List.append_assoc];rfl,hlt,ho,e,e1,e2,e3,h3⟩
  ·rw [iN hlt] at h
   cases h
   exact ⟨[],by rw [List.append_nil],by show zbD s i=s.size;omega⟩
theorem zg4 {s:ByteArray} {l:List Tk} (h:zbi (zaN s) s=.inl l):s.size<=65536/\Chn s 0 l:=by
 unfold zbi at h
 split at h
 ·cases h
 ·next q =>
  obtain ⟨l2,h2,h3⟩:=chn_of s _ _ 0 l (by omega) (by have:=(zcs (s:=s) (i:=0) (by omega)).1;omega) h;rw [h2];exact ⟨by omega,h3⟩
def zmT (s:ByteArray):Bool:=decide (0<s.size)&&decide (s.size<=32)&&hdB (chr s 0)&&spN nmB s 0==s.size
def zS:Array Value:=Array.replicate 31 (.string ⟨#[]⟩)
theorem zot (w:World):(Instr.build 134 #[]).run Tryz.prog w=.ok (.agg zS) w:=by kernel_rfl
theorem zou (w:World):(Instr.alloc 134 true (.tuple #[])).run Tryz.prog w=.ok (.pointer (some ⟨w.heap.size,0,none⟩)) (w.alloc (.cells zS 134)):=by kernel_rfl
theorem zov (w:World):(Instr.storeAt 134 (.pointer (some ⟨w.heap.size,0,none⟩)) (.agg zS)).run Tryz.prog (w.alloc (.cells zS 134))=.ok () (w.alloc (.cells zS 134)):=run_storeAt_new w 134 zS zS (by kernel_rfl) rfl (by kernel_rfl)
theorem zeR {ops:Array Oper} {rest:List Oper} {op:Oper} {a:Act} {w:World} {Q:Exit->Act->World->Prop} (hgd:op.guard=none) (ho:op.op=.build 134 #[])
  (h:wpList Tryz.prog ops Q rest (a.put op.dst (.agg zS)) w):wpList Tryz.prog ops Q (op::rest) a w :=
 wpList_plain hgd fun K hK=>by
  unfold Oper.wp execOp;simp only [ho,List.map_toArray,List.map_nil,Sem.run_bind,zot,Result.andThen_ok];exact hK _ _ h
theorem zeS {ops:Array Oper} {rest:List Oper} {op:Oper} {a:Act} {w:World} {Q:Exit->Act->World->Prop} (hgd:op.guard=none) (ho:op.op=.alloc 134)
  (h:wpList Tryz.prog ops Q rest (a.put op.dst (.pointer (some ⟨w.heap.size,0,none⟩))) (w.alloc (.cells zS 134))):wpList Tryz.prog ops Q (op::rest) a w :=
 wpList_plain hgd fun K hK=>by
  unfold Oper.wp execOp;simp only [ho,Sem.run_bind,zou,Result.andThen_ok];exact hK _ _ h
theorem zeT {ops:Array Oper} {rest:List Oper} {op:Oper} {a:Act} {w:World} {Q:Exit->Act->World->Prop} (hgd:op.guard=none) (x y:Operand) (ho:op.op=.store 134 x y)
  (hx:a.eval x=.pointer (some ⟨w.heap.size,0,none⟩)) (hy:a.eval y=.agg zS)
  (h:wpList Tryz.prog ops Q rest (a.put op.dst undef) (w.alloc (.cells zS 134))):wpList Tryz.prog ops Q (op::rest) a (w.alloc (.cells zS 134)) :=
 wpList_plain hgd fun K hK=>by
  unfold Oper.wp execOp;simp only [ho,hx,hy,Sem.run_bind,zov,Result.andThen_ok];exact hK _ _ h
structure ZX (W:World) (b:Nat) (c:Array Value):Prop where
 heap:W.heap[b]?=some (.cells c 134 (0,0))
theorem ZX.put {W:World} {b:Nat} {c:Array Value} (h:ZX W b c) (j:Nat) (v:Value):ZX (W.setCell ⟨b,j,none⟩ v) b (c.setIfInBounds j v):=⟨by
 rw [heap_setCell_same _ b j _ 134 v h.heap]⟩
theorem ZX.cell {W:World} {b:Nat} {c:Array Value} (h:ZX W b c) (j:Nat):W.cell? ⟨b,j,none⟩=c[j]?:=cell_of_row W b j _ 134 (0,0) h.heap
theorem ZX.fz {W:World} {b:Nat} {c:Array Value} (h:ZX W b c) (j:Nat):W.frozen? ⟨b,j,none⟩=false:=frozen_of_row W b j _ 134 h.heap
def finS:Array Value:=((((((((((((((((((zS.setIfInBounds 6 (.string ⟨#[60,45]⟩)).setIfInBounds 27 (.string ⟨#[45,62]⟩)).setIfInBounds 7 (.string ⟨#[47]⟩)).setIfInBounds 8 (.string ⟨#[38]⟩)).setIfInBounds 9 (.string ⟨#[33]⟩)).setIfInBounds 10 (.string ⟨#[63]⟩)).setIfInBounds 11 (.string ⟨#[42]⟩)).setIfInBounds 12 (.string ⟨#[43]⟩)).setIfInBounds 16 (.string ⟨#[40]⟩)).setIfInBounds 17 (.string ⟨#[41]⟩)).setIfInBounds 18 (.string ⟨#[46]⟩)).setIfInBounds 22 (.string ⟨#[58,125]⟩)).setIfInBounds 23 (.string ⟨#[123,124]⟩)).setIfInBounds 24 (.string ⟨#[124,125]⟩)).setIfInBounds 25 (.string ⟨#[123,126]⟩)).setIfInBounds 26 (.string ⟨#[126,125]⟩)).setIfInBounds 19 (.string ⟨#[123]⟩)).setIfInBounds 20 (.string ⟨#[125]⟩))
theorem zlZ (k:Nat) (hk:k<=30):finS[k]?=some (.string ⟨(sgn k).toArray⟩):=by
 match k,hk with
 | 0,_=>rfl
 | 1,_=>rfl
 | 2,_=>rfl
 | 3,_=>rfl
 | 4,_=>rfl
 | 5,_=>rfl
 | 6,_=>rfl
 | 7,_=>rfl
 | 8,_=>rfl
 | 9,_=>rfl
 | 10,_=>rfl
 | 11,_=>rfl
 | 12,_=>rfl
 | 13,_=>rfl
 | 14,_=>rfl
 | 15,_=>rfl
 | 16,_=>rfl
 | 17,_=>rfl
 | 18,_=>rfl
 | 19,_=>rfl
 | 20,_=>rfl
 | 21,_=>rfl
 | 22,_=>rfl
 | 23,_=>rfl
 | 24,_=>rfl
 | 25,_=>rfl
 | 26,_=>rfl
 | 27,_=>rfl
 | 28,_=>rfl
 | 29,_=>rfl
 | 30,_=>rfl
 | n+31,h=>omega
theorem store9 {W:World} {b j:Nat} {c:Array Value} {u:Value} (h:ZX W b c) (hj:c[j]?=some u) (s:ByteArray):(Instr.storeAt 9 (.pointer (some ⟨b,j,none⟩)) (.string s)).run Tryz.prog W=.ok () (W.setCell ⟨b,j,none⟩ (.string s)):=by
 have h1:=(h.cell j).trans hj;have h2:=h.fz j;simp [Instr.storeAt,Instr.sureAddr,storeVar,go_sem,h1,h2]
theorem zgh {ops:Array Oper} {rest:List Oper} {op:Oper} {a:Act} {w W:World} {Q:Exit->Act->World->Prop} {b j:Nat} {c:Array Value} {u:Value} {s:ByteArray} (hgd:op.guard=none) (x y:Operand) (ho:op.op=.store 9 x y)
  (hx:a.eval x=.pointer (some ⟨b,j,none⟩)) (hy:a.eval y=.string s) (hz:ZX W b c/\Below w.heap.size w W) (hb:w.heap.size<=b) (hj:c[j]?=some u)
  (h:∀W',(ZX W' b (c.setIfInBounds j (.string s))/\Below w.heap.size w W')->wpList Tryz.prog ops Q rest (a.put op.dst undef) W'):wpList Tryz.prog ops Q (op::rest) a W :=
 wpList_plain hgd fun K hK=>by
  unfold Oper.wp execOp;simp only [ho,hx,hy,Sem.run_bind,store9 hz.1 hj,Result.andThen_ok];exact hK _ _ (h _ ⟨hz.1.put j _,hz.2.setCell (p:=⟨b,j,none⟩) hb _⟩)
theorem zow (k:Nat) (h1:1<=k) (h2:k<=30) (w:World):Calls Tryz.prog 72 #[.int .i64 k] w (rB w (.string ⟨(sgn k).toArray⟩)):=by
 have HZ:Hid (ZX (w.alloc (.cells zS 134)) w.heap.size zS/\Below w.heap.size w (w.alloc (.cells zS 134))):=⟨⟨heap_alloc_new w _⟩,zaa w _⟩;have HC:Hid (∀W,ZX W w.heap.size finS->W.cell? ⟨w.heap.size,k,none⟩=some (.string ⟨(sgn k).toArray⟩)):=fun W h=>by rw [h.cell];exact zlZ k h2
 have t1:¬(k:Int)<1:=by omega
 have t2:¬(30:Int)<(k:Int):=by omega
 have z0:(0:Int)<=(k:Int):=by omega
 have z1:(k:Int)<31:=by omega
 generalize ByteArray.mk (sgn k).toArray=tx at *;go_enter Tryz.func72,Tryz.ntmps72;go_wp2_with (first | refine zeR rfl rfl ?_ | refine zeS rfl rfl ?_ | (refine zeT rfl _ _ rfl rfl rfl ?_;generalize w.alloc (.cells zS 134)=W1 at *) | (refine zgh rfl _ _ rfl rfl rfl HZ (nL _) rfl ?_;clear HZ;intro W1 hz;have HZ:=(show Hid _ from hz);clear hz;try (have hC:=HC _ HZ.1;clear HC)))
 go_ret
 exact ⟨rfl,HZ.2⟩
def txF (k:Int) (tx:ByteArray):Bool:=if k=1 then zmT tx else if k=21 then (tx.toList==[])||zmT tx else if k=2 then decide ((tx.size:Int)<=255) else if k=28 then ((tx.size:Int)==1) else (tx.toList==[])
def nbF (k n s0:Int):Bool:=decide (0<=n)&&decide (n<=if k=5 then s0 else gtK k)
def seF (k:Int) (tx:ByteArray) (s0 s1 s2 s3:Int):Bool:=if k=3 then true else if k=28 then ((cls (chr tx 0).toNat).2==0)&&(s0==wd (cls (chr tx 0).toNat).1 0&&(s1==wd (cls (chr tx 0).toNat).1 1&&(s2==wd (cls (chr tx 0).toNat).1 2&&s3==wd (cls (chr tx 0).toNat).1 3))) else if k=5 then decide (s0<=1114111)&&(s0==s0&&(s1==0&&(s2==0&&s3==0))) else (s0==0&&(s1==0&&(s2==0&&s3==0)))
def riF (t:Tk):Bool:=decide (1<=t.kd)&&decide (t.kd<=30)&&txF t.kd t.tx&&nbF t.kd t.nn t.s0&&seF t.kd t.tx t.s0 t.s1 t.s2 t.s3
structure TkB (t:Tk):Prop where
 n:t.nn<9223372036854775808
 u0:0<=t.s0
 u1:t.s0<18446744073709551616
 u2:0<=t.s1/\t.s1<18446744073709551616
 u3:0<=t.s2/\t.s2<18446744073709551616
 u4:0<=t.s3/\t.s3<18446744073709551616
theorem zhE {s:ByteArray} (h:zmT s=true):0<s.size/\s.size<=32:=by
 unfold zmT at h;simp only [Bool.and_eq_true,decide_eq_true_eq] at h;exact ⟨h.1.1.1,h.1.1.2⟩
theorem gtK_le (k:Int):gtK k<=999999:=by unfold gtK;(repeat' split) <;> omega
structure Rgt (t:Tk):Prop where
 r:riF t=true
 b:TkB t
theorem Rgt.plain {k n a e:Int} {tx:ByteArray} (h:riF ⟨k,n,a,e,tx,0,0,0,0⟩=true) (hn:n<=1114111):Rgt ⟨k,n,a,e,tx,0,0,0,0⟩:=⟨h,⟨by show n<_;omega,by show (0:Int)<=0;omega,by show (0:Int)<_;omega,by show (0:Int)<=0/\(0:Int)<_;omega,by show (0:Int)<=0/\(0:Int)<_;omega,by show (0:Int)<=0/\(0:Int)<_;omega⟩⟩
theorem zc8 (x:BitVec 256) (i:Nat):0<=wd x i/\wd x i<18446744073709551616:=by
 unfold wd;have:=(x.extractLsb' (64 * i) 64).isLt;omega
theorem zmU {s:ByteArray} {b:Nat} (hh:hdB (chr s b)=true) (hle:¬32<spN nmB s b - b):zmT (s.extract b (spN nmB s b))=true:=by
 have hnm:nmB (chr s b)=true:=by unfold nmB;rw [hh];rfl
 obtain ⟨h1,h2⟩:=za5 (P:=nmB) (by decide) hnm;have h3:=zbc nmB s (by decide) (b+1);have h4:=zbE nmB s (by decide) b (by omega);obtain ⟨_,_,h6,h7⟩:=zbX nmB s (by decide) _ b rfl;generalize spN nmB s b=e at *;have hsz:(s.extract b e).size=e - b:=by rw [ByteArray.size_extract];omega
 have hc:∀k,k<e - b->chr (s.extract b e) k=chr s (b+k):=fun k hk=>zgw (by omega) h4
 unfold zmT;rw [hsz,decide_eq_true (by omega),decide_eq_true (by omega),hc 0 (by omega),Nat.add_zero,hh];have hr:spN nmB (s.extract b e) 0=e - b:=by
  refine spN_eq (by decide) (by omega) (fun k _ hk=>?_) ?_
  ·rw [hc k hk];exact h7 (b+k) (by omega) (by omega)
  ·rw [zau (by rw [hsz];omega)];decide
 rw [hr];simp
theorem zhF (s:ByteArray) (i:Nat) (base:Int) (hb:0<=base):∀k,(∀j,j<k->0<=zaG (chr s (i+j)))->0<=zaD s i base k:=by
 intro k
 induction k with
 | zero=>intro _;exact Int.le_refl _
 | succ k ih =>
  intro h;have h1:=ih (fun j hj=>h j (by omega));have h2:=h k (by omega);have h3:=Int.mul_nonneg h1 hb
  show 0<=zaD s i base k * base+zaG (chr s (i+k))
  omega
theorem zmV {c:Int} (h:dgB c=true):0<=zaG c:=by
 unfold dgB at h;simp only [Bool.and_eq_true,decide_eq_true_eq] at h;unfold zaG;rw [iP h];omega
theorem hx_hex {c:Int} (h:hxB c=true):0<=zaG c:=by
 unfold hxB at h
 rcases Bool.or_eq_true_iff.1 h with h | h
 ·exact zmV h
 ·simp only [Bool.and_eq_true,decide_eq_true_eq] at h
  unfold zaG;rw [iN (by omega),iP h];omega
theorem zox {s:ByteArray} {d:Nat} {m n:Int} (h:zbR s d m=.inl n):0<=n/\n<=m:=by
 unfold zbR at h
 split at h
 ·cases h
 split at h
 ·cases h
 ·next q1 q2 =>
  cases h
  obtain ⟨_,_,_,h7⟩:=zbX dgB s (by decide) _ d rfl;refine ⟨zhF _ _ _ (by omega) _ (fun j hj=>zmV (h7 (d+j) (by omega) (by omega))),?_⟩;omega
theorem zkd {s:ByteArray} {b d:Nat} {k:Int} {t:Tk} (hk:k=4∨k=13∨k=14∨k=15) (h:nmR s b d k=.inl t):Rgt t:=by
 unfold nmR at h
 cases hn:zbR s d (gtK k) with
 | inr e=>rw [hn] at h;cases h
 | inl n =>
  rw [hn] at h
  cases h
  obtain ⟨h1,h2⟩:=zox hn;have h3:=gtK_le k;refine Rgt.plain ?_ (by omega);have em:((⟨#[]⟩:ByteArray).toList==[])=true:=by rw [ByteArray.toList_eq];rfl
  unfold riF txF nbF seF
  rcases hk with rfl | rfl | rfl | rfl <;> simp [] <;> omega
theorem zke (s:ByteArray) (q:Int) (b:Nat):∀(f:Nat) (out:List Int) (i:Nat) (t:Tk),zby s q b f out i=.inl t->Rgt t:=by
 intro f
 induction f with
 | zero=>intro out i t h;rw [zby] at h;cases h
 | succ f ih =>
  intro out i t h;rw [zby] at h
  split at h
  ·cases h
  split at h
  ·split at h
   ·cases h
   ·next q2 =>
    cases h
    refine Rgt.plain ?_ (by omega);unfold riF txF nbF seF gtK;have:=zbo out;simp
    omega
  split at h
  ·cases h
  split at h
  ·exact ih _ _ _ h
  ·split at h
   ·cases h
   ·exact ih _ _ _ h
theorem zoy {a e:Int} {s:ByteArray} (h:zmT s=true):riF ⟨1,0,a,e,s,0,0,0,0⟩=true:=by
 unfold riF txF nbF seF gtK;simp [h]
theorem ri_grp {a e:Int} {s:ByteArray} (h:zmT s=true):riF ⟨21,0,a,e,s,0,0,0,0⟩=true:=by
 unfold riF txF nbF seF gtK;simp [h]
theorem zkf {a e:Int}:riF ⟨21,0,a,e,⟨#[]⟩,0,0,0,0⟩=true:=by
 have em:((⟨#[]⟩:ByteArray).toList==[])=true:=by rw [ByteArray.toList_eq];rfl
 unfold riF txF nbF seF gtK;simp []
theorem zl0 {s:ByteArray} {b d:Nat} {t:Tk} (h:zcD s b d=.inl t):Rgt t:=by
 unfold zcD at h
 split at h
 ·next hh =>
  split at h
  ·cases h
  ·next hl =>
   split at h
   ·cases h;exact Rgt.plain (ri_grp (zmU hh hl)) (by omega)
   ·cases h;exact Rgt.plain zkf (by omega)
 ·cases h;exact Rgt.plain zkf (by omega)
def sgK (k:Int):Bool:=k==0||k==13||k==14||k==15||k==21||k==29||k==30||k==27||(decide (6<=k)&&decide (k<=12))||(decide (16<=k)&&decide (k<=20))||(decide (22<=k)&&decide (k<=26))
theorem sgC_in (c0 c1:Int):sgK (sgC c0 c1).1=true:=by
 have h:∀l:List (Int×List UInt8),(∀p∈l,sgK p.1=true)->sgK (zd8 c0 c1 l).1=true:=by
  intro l
  induction l with
  | nil=>intro _;rfl
  | cons p l ih =>
   intro h;rw [zd8]
   split
   ·exact h p (List.mem_cons_self ..)
   ·exact ih (fun q hq=>h q (List.mem_cons_of_mem _ hq))
 rw [<-zmR];exact h sgTab (by decide)
theorem ri_sig {k a e:Int} (h:sgK k=true) (h0:¬k=0) (h1:¬(k=13∨k=14∨k=15)) (h2:¬k=21):riF ⟨k,0,a,e,⟨#[]⟩,0,0,0,0⟩=true:=by
 have em:((⟨#[]⟩:ByteArray).toList==[])=true:=by rw [ByteArray.toList_eq];rfl
 simp only [sgK,Bool.or_eq_true,Bool.and_eq_true,beq_iff_eq,decide_eq_true_eq] at h;unfold riF txF nbF seF gtK;dsimp only;rw [iN (show ¬k=1 by omega),iN (show ¬k=21 by omega),iN (show ¬k=2 by omega),iN (show ¬k=28 by omega),iN (show ¬k=5 by omega),iN (show ¬k=4 by omega),iN h1,iN (show ¬k=3 by omega),iN (show ¬k=28 by omega),iN (show ¬k=5 by omega),em,decide_eq_true (show 1<=k by omega),decide_eq_true (show k<=30 by omega)];rfl
theorem zhG {s:ByteArray} {b:Nat} {t:Tk} (h:zbS s b=.inl t):Rgt t:=by
 have hi:=sgC_in (chr s b) (chr s (b+1));rw [<-zgg] at hi;unfold zbS at h
 split at h
 ·cases h
 split at h
 ·next q=>exact zkd (.inr q) h
 split at h
 ·exact zl0 h
 ·next h0 h1 h2=>cases h;exact Rgt.plain (ri_sig hi h0 h1 h2) (by omega)
theorem zmW {n m a e:Int} (h0:0<=n) (h1:n<=m) (h2:m<=1114111):Rgt ⟨5,n,a,e,⟨#[]⟩,m,0,0,0⟩:=by
 have em:((⟨#[]⟩:ByteArray).toList==[])=true:=by rw [ByteArray.toList_eq];rfl
 refine ⟨?_,⟨by show n<_;omega,by show 0<=m;omega,by show m<_;omega,by show (0:Int)<=0/\(0:Int)<_;omega,by show (0:Int)<=0/\(0:Int)<_;omega,by show (0:Int)<=0/\(0:Int)<_;omega⟩⟩;unfold riF txF nbF seF;simp []
 omega
theorem zkg {s:ByteArray} {a:Nat} (h:(ptP s a).2.2=true):0<=(ptP s a).1/\(ptP s a).1<=1114111:=by
 unfold ptP at h ⊢
 split at h
 ·cases h
 ·next q =>
  rw [iN q];obtain ⟨_,_,_,h7⟩:=zbX hxB s (by decide) _ a rfl;exact ⟨zhF _ _ _ (by omega) _ (fun j hj=>hx_hex (h7 (a+j) (by omega) (by omega))),of_decide_eq_true h⟩
theorem zl1 {s:ByteArray} {b:Nat} {t:Tk} (h:zb6 s b=.inl t):Rgt t:=by
 unfold zb6 at h
 split at h
 ·cases h
 next q1 =>
 have p1:=zkg (s:=s) (a:=b+3) (by simpa using q1)
 split at h
 ·split at h
  ·cases h
  next q2 =>
  have p2:=zkg (s:=s) (a:=(ptP s (b+3)).2.1+1) (by
   by_cases q:(ptP s ((ptP s (b+3)).2.1+1)).2.2=false
   ·exact absurd (.inl q) q2
   ·simpa using q)
  split at h
  ·cases h;exact zmW p1.1 (by omega) p2.2
  ·cases h
 ·split at h
  ·cases h;exact zmW p1.1 (Int.le_refl _) p1.2
  ·cases h
theorem zl2 {s:ByteArray} {b:Nat} {t:Tk} (_hb:b<s.size) (h:zaN s b=.inl t):Rgt t:=by
 unfold zaN at h
 split at h
 ·next hh =>
  unfold zcB at h
  split at h
  ·cases h
  ·next hl=>cases h;exact Rgt.plain (zoy (zmU hh hl)) (by omega)
 split at h
 ·exact zkd (.inl rfl) h
 split at h
 ·exact zke _ _ _ _ _ _ _ h
 split at h
 ·cases hr:zap s b with
  | inr p =>
   rw [hr,clT] at h
   split at h <;> cases h
  | inl p =>
   rw [hr] at h
   cases h
   have em:((⟨#[]⟩:ByteArray).toList==[])=true:=by rw [ByteArray.toList_eq];rfl
   refine ⟨?_,⟨by show (0:Int)<_;omega,(zc8 _ _).1,(zc8 _ _).2,zc8 _ _,zc8 _ _,zc8 _ _⟩⟩;unfold riF txF nbF seF gtK;simp []
 split at h
 ·unfold zcY at h
  split at h
  ·exact zl1 h
  split at h
  ·exact zhG h
  split at h
  ·next q =>
   cases h
   obtain ⟨q1,q2⟩:=q;refine ⟨?_,⟨by show (0:Int)<_;omega,(zc8 _ _).1,(zc8 _ _).2,zc8 _ _,zc8 _ _,zc8 _ _⟩⟩;have hsz:(s.extract (b+1) (b+2)).size=1:=by rw [ByteArray.size_extract];omega
   have hc:chr (s.extract (b+1) (b+2)) 0=chr s (b+1):=by rw [zgw (by omega) (by omega)]
   unfold riF txF nbF seF gtK;dsimp only;rw [hc,hsz,q2];simp
  ·cases h
 ·exact zhG h
theorem zoz (s:ByteArray):∀(l:List Tk) (i:Nat),Chn s i l->∀t∈l,Rgt t:=by
 intro l
 induction l with
 | nil=>intro i _ t ht;cases ht
 | cons a l ih =>
  intro i h t ht;obtain ⟨h1,h2,e,_,_,_,h3⟩:=h
  rcases List.mem_cons.1 ht with rfl | h4
  ·exact zl2 h1 h2
  ·exact ih e h3 t h4
theorem zkh {s:ByteArray} {l:List Tk} (h:zbi (zaN s) s=.inl l):∀t∈l,Rgt t:=zoz s l 0 (zg4 h).2
theorem zki (s:ByteArray) (q:Int) (b:Nat) (hb:b<=s.size):∀(f:Nat) (out:List Int) (i:Nat) (p:Nat×Int),zby s q b f out i=.inr p->p.1<=s.size:=by
 intro f
 induction f with
 | zero=>intro out i p h;rw [zby] at h;cases h;exact hb
 | succ f ih =>
  intro out i p h;rw [zby] at h
  split at h
  ·cases h;exact hb
  next hc =>
  have hi:i<s.size:=zaz (by omega)
  split at h
  ·split at h
   ·cases h;exact hb
   ·cases h
  split at h
  ·cases h;exact Nat.le_of_lt hi
  split at h
  ·exact ih _ _ _ h
  ·split at h
   ·cases h;exact Nat.le_of_lt hi
   ·exact ih _ _ _ h
theorem zkj {s:ByteArray} {b d:Nat} {k:Int} {p:Nat×Int} (hb:b<=s.size) (h:nmR s b d k=.inr p):p.1<=s.size:=by
 unfold nmR at h
 cases hn:zbR s d (gtK k) with
 | inr e=>rw [hn] at h;cases h;exact hb
 | inl n=>rw [hn] at h;cases h
theorem zhH {s:ByteArray} {b:Nat} {p:Nat×Int} (hb:b<=s.size) (h:zbS s b=.inr p):p.1<=s.size:=by
 have hl:=zca s b hb;unfold zbS at h
 split at h
 ·cases h;exact hb
 split at h
 ·exact zkj hb h
 split at h
 ·unfold zcD at h
  split at h
  ·split at h
   ·cases h;exact hl
   ·split at h <;> cases h
  ·cases h
 ·cases h
theorem zl3 {s:ByteArray} {b:Nat} {p:Nat×Int} (hb:b<=s.size) (h:zb6 s b=.inr p):p.1<=s.size:=by
 unfold zb6 at h
 split at h
 ·cases h;exact hb
 split at h
 ·split at h
  ·cases h;exact hb
  split at h
  ·cases h
  ·cases h;exact hb
 ·split at h
  ·cases h
  ·cases h;exact hb
theorem zl4 {s:ByteArray} {b:Nat} {p:Nat×Int} (hb:b<=s.size) (h:zaN s b=.inr p):p.1<=s.size:=by
 unfold zaN at h
 split at h
 ·unfold zcB at h
  split at h
  ·cases h;exact hb
  ·cases h
 split at h
 ·exact zkj hb h
 split at h
 ·exact zki _ _ _ hb _ _ _ _ h
 split at h
 ·cases hr:zap s b with
  | inl q=>rw [hr] at h;cases h
  | inr q =>
   rw [hr,clT] at h
   split at h
   ·cases h;exact hb
   ·cases h;exact zkb hr
 split at h
 ·unfold zcY at h
  split at h
  ·exact zl3 hb h
  split at h
  ·exact zhH hb h
  split at h
  ·cases h
  ·cases h;exact hb
 ·exact zhH hb h
theorem zkk (s:ByteArray):∀(f:Nat) (out:List Tk) (i:Nat) (p:Nat×Int),zbT (zaN s) s f out i=.inr p->p.1<=s.size/\p.2≠0:=by
 intro f
 induction f with
 | zero=>intro out i p h;rw [zbT] at h;cases h
 | succ f ih =>
  intro out i p h;rw [zbT] at h
  split at h
  ·next hi =>
   cases ho:zaN s i with
   | inr q=>rw [ho] at h;cases h;exact ⟨zl4 (Nat.le_of_lt hi) ho,zg0 s i _ ho⟩
   | inl t=>rw [ho] at h;exact ih _ _ _ h
  ·cases h
theorem zfK {s:ByteArray} {p:Nat×Int} (h:zbi (zaN s) s=.inr p):p.1<=s.size/\p.2≠0:=by
 unfold zbi at h
 split at h
 ·cases h;exact ⟨Nat.zero_le _,by decide⟩
 ·exact zkk s _ _ _ _ h
theorem zoA (s:ByteArray):∀(l:List Tk) (i:Nat),i<=s.size->Chn s i l->i+l.length<=s.size:=by
 intro l
 induction l with
 | nil=>intro i hi _;simpa using hi
 | cons a l ih =>
  intro i hi h;obtain ⟨h1,_,e,_,h3,h4,h5⟩:=h;have h6:=ih e h4 h5;have h7:=zg3 s i hi;rw [List.length_cons];omega
theorem zkl {s:ByteArray} {l:List Tk} (h:zbi (zaN s) s=.inl l):l.length<=65536:=by
 obtain ⟨h1,h2⟩:=zg4 h;have:=zoA s l 0 (by omega) h2;omega
end Go.Proofs.YtkihfkcmcdiajaaGreatDoor
namespace Go.Proofs.YtkihfkcmcdiajaaGreatDoor.N
open Go.RowKit
structure GW (W:World):Prop where
 s:SG W
 v:R.VB W
theorem GW.later {W W':World} (h:GW W) (hb:Below W.heap.size W W'):GW W':=⟨h.s.later hb,h.v.below hb h.v.lt⟩
theorem zeF {s:ByteArray} {l:List Tk} (h:zbi (zaN s) s=.inl l):OkE (mkE l):=by
 have hr:=zkh h;refine ⟨zkl h,rfl,rfl,fun t ht hk=>?_,fun t ht=>?_,fun t ht hk=>?_⟩
 ·have h1:=(hr t ht).r
  have h2:=(hr t ht).b;unfold riF nbF seF at h1;rw [iP hk,iN (by omega),iN (by omega),iP hk] at h1;simp only [Bool.and_eq_true,decide_eq_true_eq] at h1;omega
 ·have h1:=(hr t ht).r
  unfold riF txF at h1;simp only [Bool.and_eq_true,decide_eq_true_eq] at h1;have h2:=h1.1.1.2;have emp:∀{x:ByteArray},(x.toList==[])=true->x.size<=65536:=fun {x} hx=>by
   rw [beq_iff_eq,ByteArray.toList_eq] at hx;have:x.data.toList.length=0:=by rw [hx];rfl
   have h3:x.size=x.data.toList.length:=by simp
   omega
  split at h2
  ·have:=zhE h2;omega
  ·split at h2
   ·rw [Bool.or_eq_true] at h2
    rcases h2 with h2 | h2
    ·exact emp h2
    ·have:=zhE h2;omega
   ·split at h2
    ·have:=of_decide_eq_true h2;omega
    ·split at h2
     ·have:=beq_iff_eq.1 h2;omega
     ·exact emp h2
 ·have h1:=(hr t ht).r
  unfold riF nbF at h1;rw [iN (by omega)] at h1;simp only [Bool.and_eq_true,decide_eq_true_eq] at h1;have h2:=h1.1.2
  rcases hk with hk | hk | hk <;> rw [hk] at h2 <;> (have h3:t.nn<=0:=h2.2;omega)
theorem zgi (s:ByteArray) (w:World) (hg:GW w) (q:Nat×Int) (hq:zbi (zaN s) s=.inr q) (hne:¬q.2=0):Calls Tryz.prog 22 #[.string s] w fun e w'=>e=pnc q.1 q.2/\Below w.heap.size w w':=by
 have HL:Hid (∀_:Unit,Cl 44 #[.string s] w (rB w (.tuple #[.slice none 0 0,.agg #[.int .i64 q.1,.int .i64 q.2]]))):=fun _=>by
  have:=zhD s w hg.s;rw [hq] at this;exact this
 have HU:Hid (∀a c W,Cl 45 #[.int .i64 a,.int .i64 c] W fun e W'=>e=pnc a c/\W'=W):=fun a c W=>zcV a c W
 have t1:(q.2 != 0)=true:=by simpa using hne
 clear hg hq hne;go_enter Tryz.func22,Tryz.ntmps22;go_wp2_with fail;refine (HL ()).mono ?_;rintro e w1 ⟨rfl,hb⟩;have HB:Hid (Below w.heap.size w w1):=hb;clear hb HL;go_wp2_with fail;refine (HU _ _ _).mono ?_;rintro e w2 ⟨rfl,rfl⟩;exact zai rfl ⟨rfl,HB.alloc HB.size _⟩
theorem zgj (s:ByteArray) (w:World) (hg:GW w) (l:List Tk) (hl:zbi (zaN s) s=.inl l):Calls Tryz.prog 22 #[.string s] w fun e w'=>∃b tv,e=.returned (.pointer (some ⟨b,0,none⟩))/\RS (mkE l) s.size w w' b tv 0 0 (.slice none 0 0) []:=by
 have hlen:=zkl hl;obtain ⟨i0,hinf,hz0,hz1,hz2⟩:=info_parts Tryz.info36;have HL:Hid (∀_:Unit,Cl 44 #[.string s] w fun e w'=>(∃v,e=.returned (.tuple #[v,.agg #[.int .i64 0,.int .i64 0]])/\w'.ownsRow w.heap.size 79 9 v l.length (tkc l))/\Below w.heap.size w w'):=fun _=>by
  have:=zhD s w hg.s;rw [hl] at this;exact this
 have HTk:Hid (zhm (mkE l) s.size=l++[enT s.size]):=rfl;clear hg hl;go_enter Tryz.func22,Tryz.ntmps22;go_wp2_with fail;refine (HL ()).mono ?_;rintro e w1 ⟨⟨v,rfl,ho⟩,hb⟩;have HB:Hid (Below w.heap.size w w1):=hb;clear hb HL;have hO2:=ho.alloc (.cells #[.int .i64 0,.int .i64 0] 27);have hs1:=HB.size;go_wp2_with (at_builtin;refine wpList_append_lies _ rfl _ _ 42 rfl w.heap.size 79 i0 (tkG tk0) 9 80 Tryz.underlying42 hinf hz0 hz1 hz2 rfl (by decide) _ _ _ rfl (hO2.alloc _) ⟨w1.heap.size+1,0,none⟩ 1 1 (tkV (enT s.size)) rfl rfl ?c1 (ziY _) (by decide) ?c3 ?c4 ?c5 (w1.heap.size+1+1) (by simp) ?_)
 case c1 =>
  have hh:=heap_alloc_new (w1.alloc (.cells #[.int .i64 0,.int .i64 0] 27)) (.cells (tkC (enT s.size)) 79);rw [sA] at hh;exact World.news_of_block (cs:=tkC (enT s.size)) (t:=79) (fr:=(0,0)) hh
 case c3=>unfold maxLen;omega
 case c4=>omega
 case c5=>rw [sA,sA];omega
 intro g cap w4 hown hgrow hat hlt4;have hbl:Below w.heap.size w w4:=((HB.alloc hs1 _).alloc (by rw [sA];omega) _).grown hgrow (by rw [sA,sA];omega) (fun k e=>(ho.lt k e).1);have HR:=(show Hid (∃b tv,w4.heap.size=b/\Value.slice (some ⟨g,0,none⟩) (l.length+1) cap=tv/\RS (mkE l) s.size w (w4.alloc (.cells #[.slice (some ⟨g,0,none⟩) (l.length+1) cap,.int .i64 0,.int .i64 0,.slice none 0 0] 97)) b tv 0 0 (.slice none 0 0) []) from
  ⟨_,_,rfl,rfl,⟨hbl.alloc hbl.size _,hbl.size,⟨heap_alloc_new w4 _⟩,by
   have h1:=hown.alloc (.cells #[.slice (some ⟨g,0,none⟩) (l.length+1) cap,.int .i64 0,.int .i64 0,.slice none 0 0] 97);rw [HTk.out,lA,List.length_singleton,zdN,zgB];exact h1,World.ownsRow_nil _ _ _ _,Nat.zero_le _,Nat.zero_le _⟩⟩)
 clear hown hgrow hat hlt4 hbl ho hO2;go_wp2_with fail;go_ret
 obtain ⟨b,tv,h1,h2,h3⟩:=HR.out;exact ⟨b,tv,by rw [<-h1];rfl,h3⟩
theorem zoB {E:PE} (hE:OkE E) {z:Nat} {w0:World} (hv:R.VB w0) {b:Nat} {tv:Value} {i:Nat} {W:World} {v:Value} {L:List Nd} (h:RS E z w0 W b tv i 0 v L) (q:Nat×Int) (hq:exN E i=.inr q):Calls Tryz.prog 49 #[.pointer (some ⟨b,0,none⟩)] W fun e W'=>e=pnc (plA E z q.1) q.2/\Below w0.heap.size w0 W':=by
 have hi:=h.hi;have H1:Hid (RS E z w0 (W.setCell ⟨b,3,none⟩ (.slice none 0 0)) b tv i 0 (.slice none 0 0) []):=h.s3 (World.ownsRow_nil _ _ _ _);have HX:Hid (∀W,RS E z w0 W b tv i 0 (.slice none 0 0) []->Cl 81 #[.pointer (some ⟨b,0,none⟩)] W fun e W'=>e=pnc (plA E z q.1) q.2/\Below w0.heap.size w0 W'):=fun W h=>by
  have:=zjv hE hv (z:=z) (b:=b) (tv:=tv) (d:=0) hi W _ _ h (Nat.zero_le _);rw [zlc,hq] at this;exact this
 obtain ⟨k0,k1,k2,k3⟩:=h.x.cl;have f3:=h.x.fz 3;clear h hE hv hq;go_enter Tryz.func49,Tryz.ntmps49;go_wp2_with fail;refine (HX _ H1.out).mono ?_;rintro e w1 ⟨rfl,hb⟩;exact zai rfl ⟨rfl,hb⟩
theorem zkm {E:PE} (hE:OkE E) {z:Nat} {w0:World} (hv:R.VB w0) {b:Nat} {tv:Value} {i:Nat} {W:World} {v:Value} {L:List Nd} (h:RS E z w0 W b tv i 0 v L) (a:Nat) (ns:List Nd) (hq:exN E i=.inl (a,ns)):Calls Tryz.prog 49 #[.pointer (some ⟨b,0,none⟩)] W fun e W'=>∃v',e=.returned v'/\RS E z w0 W' b tv a 0 v' ns/\Fr W W' b (.slice none 0 0) v':=by
 have hi:=h.hi;have H1:Hid (RS E z w0 (W.setCell ⟨b,3,none⟩ (.slice none 0 0)) b tv i 0 (.slice none 0 0) []):=h.s3 (World.ownsRow_nil _ _ _ _);have HF1:Hid (Fr W (W.setCell ⟨b,3,none⟩ (.slice none 0 0)) b (.slice none 0 0) (.slice none 0 0)):=Fr.set _ _ _ _ _;have HX:Hid (∀W,RS E z w0 W b tv i 0 (.slice none 0 0) []->Cl 81 #[.pointer (some ⟨b,0,none⟩)] W fun e W'=>e=.returned (.tuple #[])/\∃v',RS E z w0 W' b tv a 0 v' ns/\Fr W W' b (.slice none 0 0) v'):=fun W h=>by
  have:=zjv hE hv (z:=z) (b:=b) (tv:=tv) (d:=0) hi W _ _ h (Nat.zero_le _);rw [zlc,hq] at this;exact this
 obtain ⟨k0,k1,k2,k3⟩:=h.x.cl;have f3:=h.x.fz 3;clear h hE hv hq;go_enter Tryz.func49,Tryz.ntmps49;go_wp2_with fail;refine (HX _ H1.out).mono ?_;rintro e w1 ⟨rfl,v1,h1,hf1⟩;have H2:=hO h1;have HF2:Hid (Fr W w1 b (.slice none 0 0) v1):=HF1.trans hf1;clear h1 hf1 H1 HF1 HX k0 k1 k2 k3 f3;obtain ⟨k0,k1,k2,k3⟩:=H2.x.cl;go_wp2_with fail;go_ret
 exact ⟨v1,rfl,H2.out,HF2.out⟩
end Go.Proofs.YtkihfkcmcdiajaaGreatDoor.N
namespace Go.Proofs.YtkihfkcmcdiajaaGreatDoor
open Go.ChangeShapes Go.WideShapes Go.ChangeAt Go.RowKit
theorem own:ownKnob Tryz.prog.godebug=none:=by kernel_rfl
theorem gTab : Tryz.prog.globalNamed "harrow/token.signs" = some 0 := by kernel_rfl
theorem gTabType:(Tryz.prog.globals[0]?).map (·.type)=some 161:=by kernel_rfl
theorem gBlk : Tryz.prog.globalNamed "harrow/runes.blocks" = some 2 := by kernel_rfl
theorem gBlkType:(Tryz.prog.globals[2]?).map (·.type)=some 187:=by kernel_rfl
theorem Tryz.cells150:Tryz.prog.cellsOf 150=2:=by kernel_rfl
theorem Tryz.cellsInt:Tryz.prog.cellsOf 3=1:=by kernel_rfl
theorem Tryz.cellsStr:Tryz.prog.cellsOf 9=1:=by kernel_rfl
theorem Tryz.cells187:Tryz.prog.cellsOf 187=10:=by kernel_rfl
theorem Tryz.cells186:Tryz.prog.cellsOf 186=2:=by kernel_rfl
theorem Tryz.cells21:Tryz.prog.cellsOf 21=1:=by kernel_rfl
theorem zl5 {H:Type} {enc:TypeId×Value->H} {W:World} {base fuel:Nat} {sp:Nat->Bool} {held:Bool} {cs:List Value} {z:DataW H×List MemPlace}
  (h:DataW.trod enc Tryz.prog W base sp held fuel 150 cs=some z):∃a s,cs=[.int .i64 a,.string s]/\z.1=.agg [.lit (.int .i64 a),.lit (.string s.data.toList)]:=by
 obtain ⟨y0,y1,n,rfl,hl,h0,h1⟩:=trod_struct2 Tryz.underlying150 h;rw [Tryz.cells150] at hl
 match cs,hl with
 | [c0,c1],_ =>
  dsimp only at h0 h1;rw [Tryz.cellsInt] at h0;rw [Tryz.cellsStr] at h1;obtain ⟨a,e0,e0',_⟩:=DataW.trod_int Tryz.underlying3 h0;obtain ⟨b,e1,e1',_⟩:=DataW.trod_string Tryz.underlying9 h1;have e0:[c0]=[Value.int .i64 a]:=e0;have e1:[c1]=[Value.string b]:=e1
  cases e0
  cases e1
  exact ⟨a,b,rfl,by rw [e0',e1']⟩
theorem zl6 {H:Type}:(Rows.laid_harrow_token_signs:DataW H)=.agg (sgTab.map fun p=>.agg [.lit (.int .i64 p.1),.lit (.string p.2)]):=rfl
theorem zoC:∀(i:Nat) v,tabL[i]?=some v->∃j p,sgTab[j]?=some p/\((i=2 * j/\v=.int .i64 p.1)∨(i=2 * j+1/\v=.string ⟨p.2.toArray⟩)):=by
 have key:∀(l:List (Int×List UInt8)) (i:Nat) (v:Value),(l.flatMap fun p=>[Value.int .i64 p.1,.string ⟨p.2.toArray⟩])[i]?=some v->∃j p,l[j]?=some p/\((i=2 * j/\v=.int .i64 p.1)∨(i=2 * j+1/\v=.string ⟨p.2.toArray⟩)):=by
  intro l
  induction l with
  | nil=>intro i v h;simp at h
  | cons p l ih =>
   intro i v h;rw [List.flatMap_cons] at h
   match i,h with
   | 0,h=>exact ⟨0,p,rfl,.inl ⟨rfl,by simpa using h.symm⟩⟩
   | 1,h=>exact ⟨0,p,rfl,.inr ⟨rfl,by simpa using h.symm⟩⟩
   | i+2,h =>
    obtain ⟨j,q,h1,h2⟩:=ih i v (by simpa using h);exact ⟨j+1,q,by simpa using h1,by
     rcases h2 with ⟨x,y⟩ | ⟨x,y⟩
     ·exact .inl ⟨by omega,y⟩
     ·exact .inr ⟨by omega,y⟩⟩
 exact key sgTab
theorem zil {W : World} {ps : List MemPlace} (h : DataW.LaidVars Tryz.prog W [("harrow/token.signs", Rows.laid_harrow_token_signs)] ps) : SG W := by
 obtain ⟨g',t',cs,fuel,p,q,hg',ht',hvar,hd,_,_⟩:=h;obtain rfl:=Option.some.inj (gTab.symm.trans hg');obtain rfl:=Option.some.inj (gTabType.symm.trans ht');obtain ⟨xs,m,rfl,hx,hl,hn,hel⟩:=DataW.trod_array Tryz.underlying161 hd;have hx1:=congrArg Prod.fst hx;dsimp only at hx1;rw [zl6] at hx1
 injection hx1 with hx1
 rw [Tryz.cells150] at hel;have hcell:=World.var?_cell gTab hvar;have key:∀j p,sgTab[j]?=some p->W.cell? ⟨0,2 * j,none⟩=some (.int .i64 p.1)/\W.cell? ⟨0,2 * j+1,none⟩=some (.string ⟨p.2.toArray⟩):=fun j p hp=>by
  have hj:j<24:=(List.getElem?_eq_some_iff.1 hp).1;have k0:=hel j hj;obtain ⟨x,hxj⟩:∃x,xs[j]?=some x:=⟨_,gE (by omega)⟩;rw [hxj] at k0;obtain ⟨a,s,e1,e2⟩:=zl5 k0;have h3:(xs.map (·.1))[j]?=some x.1:=by rw [List.getElem?_map,hxj];rfl
  rw [<-hx1,List.getElem?_map,hp] at h3;have h3:DataW.agg [.lit (.int .i64 p.1),.lit (.string p.2)]=x.1:=Option.some.inj h3;rw [e2] at h3
  injection h3 with h3
  injection h3 with h4 h5
  injection h5 with h5 _
  injection h4 with h4
  injection h4 with h4 h4
  injection h5 with h5
  injection h5 with h5
  have hs:s=⟨p.2.toArray⟩:=by rw [h5]
  have c0:cs.toList[2 * j]?=some (.int .i64 p.1):=by
   have:=congrArg (fun l=>l[0]?) e1;simp only [List.getElem?_take,List.getElem?_drop,List.getElem?_cons_zero] at this;rw [iP (by omega),show j * 2+0=2 * j from by omega,<-h4] at this;exact this
  have c1:cs.toList[2 * j+1]?=some (.string ⟨p.2.toArray⟩):=by
   have:=congrArg (fun l=>l[1]?) e1;simp only [List.getElem?_take,List.getElem?_drop,List.getElem?_cons_succ,List.getElem?_cons_zero] at this;rw [iP (by omega),show j * 2+1=2 * j+1 from by omega,hs] at this;exact this
  exact ⟨(hcell (2 * j)).trans (by simpa using c0),(hcell (2 * j+1)).trans (by simpa using c1)⟩
 refine ⟨World.block_lt_of_cell? W _ (key 0 _ rfl).1,fun i v hv=>?_⟩;obtain ⟨j,p,hp,hor⟩:=zoC i v hv;obtain ⟨h1,h2⟩:=key j p hp;rw [Nat.zero_add]
 rcases hor with ⟨rfl,rfl⟩ | ⟨rfl,rfl⟩
 ·exact h1
 ·exact h2
theorem zkn {P:Program} {W:World} {x:String×DataW Unit} {r:List (String×DataW Unit)} {ps:List MemPlace} (h:DataW.LaidVars P W (x::r) ps):∃q,DataW.LaidVars P W r q:=by
 obtain ⟨_,_,_,_,_,q,_,_,_,_,hq,_⟩:=h;exact ⟨q,hq⟩
theorem zcT {H:Type} {enc:TypeId×Value->H} {W:World} {base fuel:Nat} {sp:Nat->Bool} {held:Bool} {c0 c1:Value} {z:DataW H×List MemPlace}
  (h:DataW.trod enc Tryz.prog W base sp held fuel 186 [c0,c1]=some z):∃a b,c0=.int .i32 a/\c1=.int .i32 b/\z.1=.agg [.lit (.int .i32 a),.lit (.int .i32 b)]:=by
 obtain ⟨y0,y1,n,rfl,_,h0,h1⟩:=trod_struct2 Tryz.underlying186 h;dsimp only at h0 h1;rw [Tryz.cells21] at h0 h1;obtain ⟨a,e0,e0',_⟩:=DataW.trod_int Tryz.underlying21 h0;obtain ⟨b,e1,e1',_⟩:=DataW.trod_int Tryz.underlying21 h1;have e0:[c0]=[Value.int .i32 a]:=e0;have e1:[c1]=[Value.int .i32 b]:=e1
 cases e0
 cases e1
 exact ⟨a,b,rfl,rfl,by rw [e0',e1']⟩
theorem zim {W : World} {rest : List (String × DataW Unit)} {ps : List MemPlace} (h : DataW.LaidVars Tryz.prog W (("harrow/runes.blocks", Rows.laid_harrow_runes_blocks) :: rest) ps) : R.VB W := by
 obtain ⟨g',t',cs,fuel,p,q,hg',ht',hvar,hd,_,_⟩:=h;obtain rfl:=Option.some.inj (gBlk.symm.trans hg');obtain rfl:=Option.some.inj (gBlkType.symm.trans ht');obtain ⟨xs,m,rfl,hx,hl,hn,hel⟩:=DataW.trod_array Tryz.underlying187 hd;have hx1:=congrArg Prod.fst hx;dsimp only at hx1;rw [Tryz.cells187] at hl;have hcell:=World.var?_cell gBlk hvar;obtain ⟨l⟩:=cs
 match l,hl with
 | [a0,a1,a2,a3,a4,a5,a6,a7,a8,a9],_ =>
  match xs,hn with
  | [x0,x1,x2,x3,x4],_ =>
   have k0:=hel 0 (by omega);have k1:=hel 1 (by omega);have k2:=hel 2 (by omega);have k3:=hel 3 (by omega);have k4:=hel 4 (by omega);rw [Tryz.cells186] at k0 k1 k2 k3 k4;obtain ⟨p0,q0,rfl,rfl,r0⟩:=zcT (show DataW.trod _ Tryz.prog _ _ _ _ m 186 [a0,a1]=some x0 from k0);obtain ⟨p1,q1,rfl,rfl,r1⟩:=zcT (show DataW.trod _ Tryz.prog _ _ _ _ m 186 [a2,a3]=some x1 from k1);obtain ⟨p2,q2,rfl,rfl,r2⟩:=zcT (show DataW.trod _ Tryz.prog _ _ _ _ m 186 [a4,a5]=some x2 from k2);obtain ⟨p3,q3,rfl,rfl,r3⟩:=zcT (show DataW.trod _ Tryz.prog _ _ _ _ m 186 [a6,a7]=some x3 from k3);obtain ⟨p4,q4,rfl,rfl,r4⟩:=zcT (show DataW.trod _ Tryz.prog _ _ _ _ m 186 [a8,a9]=some x4 from k4);simp only [Rows.laid_harrow_runes_blocks,List.map_cons,List.map_nil,r0,r1,r2,r3,r4,DataW.agg.injEq,List.cons.injEq,DataW.lit.injEq,Lit.int.injEq,and_true,true_and] at hx1;obtain ⟨⟨e0,e1⟩,⟨e2,e3⟩,⟨e4,e5⟩,⟨e6,e7⟩,e8,e9⟩:=hx1;subst e0 e1 e2 e3 e4 e5 e6 e7 e8 e9;have c0:=hcell 0;exact ⟨World.block_lt_of_cell? W _ c0,c0,hcell 1,hcell 2,hcell 3,hcell 4,hcell 5,hcell 6,hcell 7,hcell 8,hcell 9⟩
abbrev laidL : List (String × DataW Unit) := [("harrow/runes.blocks", Rows.laid_harrow_runes_blocks), ("harrow/token.signs", Rows.laid_harrow_token_signs)]
theorem zin {W:World} (h:laidMetH Tryz.prog laidL W):N.GW W:=by
 have h:laidMet Tryz.prog laidL W:=h;obtain ⟨ps,h1,_⟩:=h;obtain ⟨q2,h2⟩:=zkn h1;exact ⟨zil h2,zim h1⟩
def layAt (k:Nat) (cs:Array Value) (w:World):World:={ w with heap:=w.heap.modify k fun
   | .cells _ t frozen=>.cells cs t frozen
   | o=>o }
def zko (w:World):World:=layAt 2 #[.int .i32 0,.int .i32 127,.int .i32 128,.int .i32 2047,.int .i32 2048,.int .i32 55295,.int .i32 57344,.int .i32 65535,.int .i32 65536,.int .i32 1114111] (layAt 0 #[.int .i64 29,.string ⟨#[37,101]⟩,.int .i64 30,.string ⟨#[37,102]⟩,.int .i64 14,.string ⟨#[94,43]⟩,.int .i64 15,.string ⟨#[94,45]⟩,.int .i64 13,.string ⟨#[94]⟩,.int .i64 6,.string ⟨#[60,45]⟩,.int .i64 27,.string ⟨#[45,62]⟩,.int .i64 7,.string ⟨#[47]⟩,.int .i64 8,.string ⟨#[38]⟩,.int .i64 9,.string ⟨#[33]⟩,.int .i64 10,.string ⟨#[63]⟩,.int .i64 11,.string ⟨#[42]⟩,.int .i64 12,.string ⟨#[43]⟩,.int .i64 16,.string ⟨#[40]⟩,.int .i64 17,.string ⟨#[41]⟩,.int .i64 18,.string ⟨#[46]⟩,.int .i64 21,.string ⟨#[123,58]⟩,.int .i64 22,.string ⟨#[58,125]⟩,.int .i64 23,.string ⟨#[123,124]⟩,.int .i64 24,.string ⟨#[124,125]⟩,.int .i64 25,.string ⟨#[123,126]⟩,.int .i64 26,.string ⟨#[126,125]⟩,.int .i64 19,.string ⟨#[123]⟩,.int .i64 20,.string ⟨#[125]⟩] w)
end Go.Proofs.YtkihfkcmcdiajaaGreatDoor
namespace Go.Proofs.YtkihfkcmcdiajaaGreatDoor.N
open Go.RowKit
structure DB (W:World) (k:Nat) (a0 a1 a2 a3 a4 a5 a6:Value):Prop where
 heap:W.heap[k]?=some (.cells #[a0,a1,a2,a3,a4,a5,a6] 65 (0,0))
section
variable {W:World} {k:Nat} {a0 a1 a2 a3 a4 a5 a6:Value}
theorem DB.lt (h:DB W k a0 a1 a2 a3 a4 a5 a6):k<W.heap.size:=(Array.getElem?_eq_some_iff.1 h.heap).1
theorem DB.same (h:DB W k a0 a1 a2 a3 a4 a5 a6) {W':World} (hb:W'.heap[k]?=W.heap[k]?):DB W' k a0 a1 a2 a3 a4 a5 a6:=⟨hb.trans h.heap⟩
theorem DB.below (h:DB W k a0 a1 a2 a3 a4 a5 a6) {W':World} (hb:Below W.heap.size W W'):DB W' k a0 a1 a2 a3 a4 a5 a6:=h.same (hb.block k h.lt)
theorem DB.cl (h:DB W k a0 a1 a2 a3 a4 a5 a6):W.cell? ⟨k,0,none⟩=some a0/\W.cell? ⟨k,1,none⟩=some a1/\W.cell? ⟨k,2,none⟩=some a2/\W.cell? ⟨k,3,none⟩=some a3/\W.cell? ⟨k,4,none⟩=some a4/\W.cell? ⟨k,5,none⟩=some a5/\W.cell? ⟨k,6,none⟩=some a6:=by
 have key:∀(j:Nat) u,(#[a0,a1,a2,a3,a4,a5,a6]:Array Value)[j]?=some u->W.cell? ⟨k,j,none⟩=some u:=fun j u hu=>by
  rw [cell_of_row W k j _ 65 (0,0) h.heap];exact hu
 exact ⟨key 0 _ rfl,key 1 _ rfl,key 2 _ rfl,key 3 _ rfl,key 4 _ rfl,key 5 _ rfl,key 6 _ rfl⟩
theorem DB.fz (h:DB W k a0 a1 a2 a3 a4 a5 a6) (j:Nat):W.frozen? ⟨k,j,none⟩=false:=frozen_of_row W k j _ 65 h.heap
theorem DB.fzs (h:DB W k a0 a1 a2 a3 a4 a5 a6):W.frozen? ⟨k,0,none⟩=false/\W.frozen? ⟨k,1,none⟩=false/\W.frozen? ⟨k,2,none⟩=false/\W.frozen? ⟨k,3,none⟩=false/\W.frozen? ⟨k,4,none⟩=false/\W.frozen? ⟨k,5,none⟩=false/\W.frozen? ⟨k,6,none⟩=false:=⟨h.fz 0,h.fz 1,h.fz 2,h.fz 3,h.fz 4,h.fz 5,h.fz 6⟩
theorem DB.ne (h:DB W k a0 a1 a2 a3 a4 a5 a6) {B e s n:Nat} {u:Value} {xs:List Value} (ho:W.ownsRow B e s u n xs) (he:e≠65) {j:Nat} (hj:u.ownBlock=some j):j≠k:=fun q=>by
 subst q;obtain ⟨cs,hc⟩:=zdV ho hj;rw [h.heap] at hc
 injection hc with h4
 injection h4 with _ h5
 exact he h5.symm
end
abbrev st7 (W:World) (k:Nat) (a0 a1 a2 a3 a4 a5 a6:Value):World:=((((((W.setCell ⟨k,0,none⟩ a0).setCell ⟨k,1,none⟩ a1).setCell ⟨k,2,none⟩ a2).setCell ⟨k,3,none⟩ a3).setCell ⟨k,4,none⟩ a4).setCell ⟨k,5,none⟩ a5).setCell ⟨k,6,none⟩ a6
theorem zaF {W:World} {k:Nat} {b0 b1 b2 b3 b4 b5 b6:Value} (h:DB W k b0 b1 b2 b3 b4 b5 b6) (a0 a1 a2 a3 a4 a5 a6:Value):DB (st7 W k a0 a1 a2 a3 a4 a5 a6) k a0 a1 a2 a3 a4 a5 a6:=by
 have h0:=heap_setCell_same _ k 0 _ 65 a0 h.heap;have h1:=heap_setCell_same _ k 1 _ 65 a1 h0;have h2:=heap_setCell_same _ k 2 _ 65 a2 h1;have h3:=heap_setCell_same _ k 3 _ 65 a3 h2;have h4:=heap_setCell_same _ k 4 _ 65 a4 h3;have h5:=heap_setCell_same _ k 5 _ 65 a5 h4;have h6:=heap_setCell_same _ k 6 _ 65 a6 h5;refine ⟨?_⟩;rw [h6];simp
theorem zav {W:World} {k j:Nat} (a0 a1 a2 a3 a4 a5 a6:Value) (h:j≠k):(st7 W k a0 a1 a2 a3 a4 a5 a6).heap[j]?=W.heap[j]? :=
 (bS _ _ _ _ h).trans ((bS _ _ _ _ h).trans ((bS _ _ _ _ h).trans ((bS _ _ _ _ h).trans ((bS _ _ _ _ h).trans ((bS _ _ _ _ h).trans (bS _ _ _ _ h))))))
theorem zaq {B:Nat} {w W:World} {k:Nat} (h:Below B w W) (hk:B<=k) (a0 a1 a2 a3 a4 a5 a6:Value):Below B w (st7 W k a0 a1 a2 a3 a4 a5 a6):=((((((h.setCell (p:=⟨k,0,none⟩) hk _).setCell (p:=⟨k,1,none⟩) hk _).setCell (p:=⟨k,2,none⟩) hk _).setCell (p:=⟨k,3,none⟩) hk _).setCell (p:=⟨k,4,none⟩) hk _).setCell (p:=⟨k,5,none⟩) hk _).setCell (p:=⟨k,6,none⟩) hk _
theorem zeg (W:World) (k:Nat) (a0 a1 a2 a3 a4 a5 a6:Value):(st7 W k a0 a1 a2 a3 a4 a5 a6).heap.size=W.heap.size:=by simp [World.setCell]
theorem DB.s1 {W:World} {k:Nat} {a0 a1 a2 a3 a4 a5 a6:Value} (h:DB W k a0 a1 a2 a3 a4 a5 a6) (x:Value):DB (W.setCell ⟨k,1,none⟩ x) k a0 x a2 a3 a4 a5 a6:=⟨by rw [heap_setCell_same _ k 1 _ 65 x h.heap];simp⟩
theorem DB.s3 {W:World} {k:Nat} {a0 a1 a2 a3 a4 a5 a6:Value} (h:DB W k a0 a1 a2 a3 a4 a5 a6) (x:Value):DB (W.setCell ⟨k,3,none⟩ x) k a0 a1 a2 x a4 a5 a6:=⟨by rw [heap_setCell_same _ k 3 _ 65 x h.heap];simp⟩
theorem DB.s4 {W:World} {k:Nat} {a0 a1 a2 a3 a4 a5 a6:Value} (h:DB W k a0 a1 a2 a3 a4 a5 a6) (x:Value):DB (W.setCell ⟨k,4,none⟩ x) k a0 a1 a2 a3 x a5 a6:=⟨by rw [heap_setCell_same _ k 4 _ 65 x h.heap];simp⟩
theorem DB.s5 {W:World} {k:Nat} {a0 a1 a2 a3 a4 a5 a6:Value} (h:DB W k a0 a1 a2 a3 a4 a5 a6) (x:Value):DB (W.setCell ⟨k,5,none⟩ x) k a0 a1 a2 a3 a4 x a6:=⟨by rw [heap_setCell_same _ k 5 _ 65 x h.heap];simp⟩
theorem DB.s6 {W:World} {k:Nat} {a0 a1 a2 a3 a4 a5 a6:Value} (h:DB W k a0 a1 a2 a3 a4 a5 a6) (x:Value):DB (W.setCell ⟨k,6,none⟩ x) k a0 a1 a2 a3 a4 a5 x:=⟨by rw [heap_setCell_same _ k 6 _ 65 x h.heap];simp⟩
theorem zaU {fn:Func} {R:Ending->World->Prop} {act:Act} {W:World} {s k:Nat} {a0 a1 a2 a3 a4 a5 a6:Value} (hF:fn.results=#[.cell s 65]) (hd:act.defers=[]) (h2:act.tmps.getD s undef=.pointer (some ⟨k,0,none⟩)) (hT:DB W k a0 a1 a2 a3 a4 a5 a6) (hR:R (.returned (.agg #[a0,a1,a2,a3,a4,a5,a6])) W):bodyPost Tryz.prog fn R .ret act W:=by
 obtain ⟨c0,c1,c2,c3,c4,c5,c6⟩:=hT.cl;refine bodyPost_ret (v:=.agg #[a0,a1,a2,a3,a4,a5,a6]) ?_ hd hR;simp only [Array.getD_eq_getD_getElem?] at h2;simp [results,hF,go_sem,h2,c0,c1,c2,c3,c4,c5,c6]
abbrev rdV (tv:Value) (i z d:Int) (v:Value) (p c:Int):Value:=.agg #[tv,.int .i64 i,.int .i64 z,.int .i64 d,v,.int .i64 p,.int .i64 c]
abbrev rdO (tv:Value) (i z d:Int) (v:Value) (p c:Int):Obj:=.cells #[tv,.int .i64 i,.int .i64 z,.int .i64 d,v,.int .i64 p,.int .i64 c] 65
abbrev rdZ:Obj:=.cells #[.slice none 0 0,.int .i64 0,.int .i64 0,.int .i64 0,.slice none 0 0,.int .i64 0,.int .i64 0] 65
structure DS (E:PE) (w0 W:World) (tv:Value) (i d:Nat) (v:Value) (L:List Nd):Prop where
 bl:Below w0.heap.size w0 W
 t:W.ownsRow w0.heap.size 79 9 tv E.l.length (tkc E.l)
 o:W.ownsRow w0.heap.size 51 7 v L.length (T.ndc L)
 hi:i<=E.l.length
 hd:d<=240
structure Fd (W W':World) (v v':Value):Prop where
 size:W.heap.size<=W'.heap.size
 block:∀k,k<W.heap.size->v.ownBlock≠some k->W'.heap[k]?=W.heap[k]?
 own:∀k,v'.ownBlock=some k->v.ownBlock=some k∨W.heap.size<=k
theorem Fd.trans {W W1 W2:World} {v v1 v2:Value} (h:Fd W W1 v v1) (h2:Fd W1 W2 v1 v2):Fd W W2 v v2 :=
 ⟨Nat.le_trans h.size h2.size,fun k hk hv=>(h2.block k (nM hk h.size) (fun q=>by
  rcases h.own k q with r | r
  ·exact hv r
  ·omega)).trans (h.block k hk hv),fun k hk=>by
  rcases h2.own k hk with r | r
  ·exact h.own k r
  ·exact .inr (Nat.le_trans h.size r)⟩
theorem Fd.below {W W':World} (v:Value) (h:Below W.heap.size W W'):Fd W W' v v:=⟨h.size,fun k hk _=>h.block k hk,fun _ h=>.inl h⟩
theorem Fd.set {W W':World} {v v':Value} (h:Fd W W' v v') {k:Nat} (hk:W.heap.size<=k) (j:Nat) (u:Value):Fd W (W'.setCell ⟨k,j,none⟩ u) v v' :=
 ⟨Nat.le_trans h.size (by simp [World.setCell]),fun q hq hv=>(bS _ _ _ _ (by show q≠k;omega)).trans (h.block q hq hv),h.own⟩
theorem Fd.st7 {W W':World} {v v':Value} (h:Fd W W' v v') {k:Nat} (hk:W.heap.size<=k) (a0 a1 a2 a3 a4 a5 a6:Value):Fd W (st7 W' k a0 a1 a2 a3 a4 a5 a6) v v' :=
 ⟨by rw [zeg];exact h.size,fun q hq hv=>(zav a0 a1 a2 a3 a4 a5 a6 (by omega)).trans (h.block q hq hv),h.own⟩
theorem Fd.grow {W W':World} {v:Value} {g n c:Nat} (h:W.grownBy W' v.ownBlock) (hat:v.ownBlock=some g∨g=W.heap.size):Fd W W' v (.slice (some ⟨g,0,none⟩) n c) :=
 ⟨h.size,fun k hk hv=>h.block k hk (fun e=>hv e.symm),fun k hk=>by
  have e:g=k:=Option.some.inj hk
  rcases hat with q | q
  ·exact .inl (by rw [q,e])
  ·exact .inr (by omega)⟩
section
variable {E:PE} {w0 W:World} {tv:Value} {i d:Nat} {v:Value} {L:List Nd}
theorem DS.later (h:DS E w0 W tv i d v L) {W':World} (hb:Below W.heap.size W W'):DS E w0 W' tv i d v L :=
 ⟨h.bl.trans (hb.mono h.bl.size),zk0 h.t hb,zk0 h.o hb,h.hi,h.hd⟩
theorem DS.at (h:DS E w0 W tv i d v L) {i2:Nat} (hi:i2<=E.l.length):DS E w0 W tv i2 d v L:=⟨h.bl,h.t,h.o,hi,h.hd⟩
theorem DS.dp (h:DS E w0 W tv i d v L) {d2:Nat} (hd:d2<=240):DS E w0 W tv i d2 v L:=⟨h.bl,h.t,h.o,h.hi,hd⟩
theorem DS.set (h:DS E w0 W tv i d v L) {k:Nat} {a0 a1 a2 a3 a4 a5 a6:Value} (hk:w0.heap.size<=k) (hx:DB W k a0 a1 a2 a3 a4 a5 a6) (j:Nat) (u:Value):DS E w0 (W.setCell ⟨k,j,none⟩ u) tv i d v L :=
 ⟨h.bl.setCell (p:=⟨k,j,none⟩) hk _,zam h.t fun q hq=>bS _ _ _ _ (hx.ne h.t (by decide) hq),zam h.o fun q hq=>bS _ _ _ _ (hx.ne h.o (by decide) hq),h.hi,h.hd⟩
theorem DS.st7 (h:DS E w0 W tv i d v L) {k:Nat} {b0 b1 b2 b3 b4 b5 b6:Value} (hk:w0.heap.size<=k) (hx:DB W k b0 b1 b2 b3 b4 b5 b6) (a0 a1 a2 a3 a4 a5 a6:Value):DS E w0 (st7 W k a0 a1 a2 a3 a4 a5 a6) tv i d v L :=
 ⟨zaq h.bl hk _ _ _ _ _ _ _,zam h.t fun q hq=>zav _ _ _ _ _ _ _ (hx.ne h.t (by decide) hq),zam h.o fun q hq=>zav _ _ _ _ _ _ _ (hx.ne h.o (by decide) hq),h.hi,h.hd⟩
theorem DS.grow (h:DS E w0 W tv i d v L) {W':World} {v2:Value} {L2:List Nd} (hg:W.grownBy W' v.ownBlock) (ho:W'.ownsRow w0.heap.size 51 7 v2 L2.length (T.ndc L2)):DS E w0 W' tv i d v2 L2 :=
 ⟨h.bl.grown hg h.bl.size (fun k e=>(h.o.lt k e).1),zam h.t fun k hk=>hg.block k (h.t.lt k hk).2 (fun e=>zbQ h.t h.o (by decide) hk e.symm),ho,h.hi,h.hd⟩
theorem DS.tk (h:DS E w0 W tv i d v L):∃A c,tv=.slice A E.l.length c/\∀k,k<E.l.length->∃g,A=some ⟨g,0,none⟩/\g<W.heap.size/\TR W g (k * 9) (tkA E k):=by
 obtain ⟨A,c,e,hr⟩:=ziZ h.t rfl;refine ⟨A,c,e,fun k hk=>?_⟩;obtain ⟨g,h1,h2,hc⟩:=hr.rd (by rintro q;rw [q] at hk;simp at hk);refine ⟨g,h1,h2,?_⟩;have:tkA E k=E.l[k]:=by unfold tkA;rw [gE hk];rfl
 rw [this];exact hc k _ (gE hk)
end
theorem zmX {E:PE} {i:Nat} (h:¬i<E.l.length):kdA E i=0:=by unfold kdA;rw [List.getElem?_eq_none (by omega)]
theorem zaO (At:Option Addr) (nt ct:Nat) (i z d:Int) (A:Option Addr) (n c:Nat) (p q:Int) (W:World):Calls Tryz.prog 28 #[rdV (.slice At nt ct) i z d (.slice A n c) p q] W (rB W (.bool (q==0))):=by
 have HB:Hid (Below W.heap.size W (W.alloc (rdO (.slice At nt ct) i z d (.slice A n c) p q))):=zaa _ _;go_enter Tryz.func28,Tryz.ntmps28;go_wp2_with fail;go_ret
 exact ⟨rfl,HB.out⟩
theorem zhI (At:Option Addr) (nt ct:Nat) (i z d:Int) (A:Option Addr) (n c:Nat) (p q x:Int) (hq:q≠0) (W:World):Calls Tryz.prog 32 #[rdV (.slice At nt ct) i z d (.slice A n c) p q,.int .i64 x] W (rB W (rdV (.slice At nt ct) i z d (.slice A n c) p q)):=by
 have t1:(q==0)=false:=by simpa using hq
 have HK:Hid (∀W,Cl 28 #[rdV (.slice At nt ct) i z d (.slice A n c) p q] W (rB W (.bool false))):=fun W=>by
  have:=zaO At nt ct i z d A n c p q W;rw [t1] at this;exact this
 have HB:=(show Hid (Below W.heap.size W ((W.alloc (rdO (.slice At nt ct) i z d (.slice A n c) p q)).alloc rdZ)/\DB ((W.alloc (rdO (.slice At nt ct) i z d (.slice A n c) p q)).alloc rdZ) W.heap.size (.slice At nt ct) (.int .i64 i) (.int .i64 z) (.int .i64 d) (.slice A n c) (.int .i64 p) (.int .i64 q)/\DB ((W.alloc (rdO (.slice At nt ct) i z d (.slice A n c) p q)).alloc rdZ) (W.heap.size+1) (.slice none 0 0) (.int .i64 0) (.int .i64 0) (.int .i64 0) (.slice none 0 0) (.int .i64 0) (.int .i64 0)) from
  ⟨((bR _ _).alloc (nL _) _).alloc (by rw [sA];omega) _,(DB.mk (heap_alloc_new W _)).below (zaa _ _),⟨by have h:=heap_alloc_new (W.alloc (rdO (.slice At nt ct) i z d (.slice A n c) p q)) rdZ;(try unfold rB at h);rw [sA] at h;exact h⟩⟩)
 clear t1 hq;go_enter Tryz.func32,Tryz.ntmps32;go_wp2_with fail;generalize (W.alloc (rdO (.slice At nt ct) i z d (.slice A n c) p q)).alloc rdZ=w1 at *;refine (HK _).mono ?_;rintro e w2 ⟨rfl,hb⟩;have HB2:Hid (Below W.heap.size W w2/\DB w2 W.heap.size (.slice At nt ct) (.int .i64 i) (.int .i64 z) (.int .i64 d) (.slice A n c) (.int .i64 p) (.int .i64 q)/\DB w2 (W.heap.size+1) (.slice none 0 0) (.int .i64 0) (.int .i64 0) (.int .i64 0) (.slice none 0 0) (.int .i64 0) (.int .i64 0)):=⟨HB.1.trans (hb.mono HB.1.size),HB.2.1.below hb,HB.2.2.below hb⟩;clear hb HK HB;obtain ⟨k0,k1,k2,k3,k4,k5,k6⟩:=HB2.2.1.cl;obtain ⟨f0,f1,f2,f3,f4,f5,f6⟩:=HB2.2.2.fzs;obtain ⟨m0,m1,m2,m3,m4,m5,m6⟩:=HB2.2.2.cl;go_wp2_with fail;refine zaU (s:=4) rfl rfl rfl (zaF HB2.2.2 _ _ _ _ _ _ _) ?_;exact ⟨rfl,zaq HB2.1 (Nat.le_succ _) _ _ _ _ _ _ _⟩
end Go.Proofs.YtkihfkcmcdiajaaGreatDoor.N
