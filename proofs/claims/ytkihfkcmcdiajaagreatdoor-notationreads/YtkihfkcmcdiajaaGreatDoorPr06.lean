/- DERIVED. Plain mathematics and walks, laid together (6). -/
import Derived.Test.YtkihfkcmcdiajaaGreatDoorPr05
set_option maxRecDepth 100000
set_option maxHeartbeats 8000000
namespace Go.Proofs.YtkihfkcmcdiajaaGreatDoor.R
open Go.RowKit
theorem zdu (w:World) (o:Obj):(w.alloc o).heap.size=w.heap.size+1:=by simp
abbrev Nd:=Int×BitVec 256
def ndV (n:Nd):List Value:=[.int .i64 n.1,.int .i64 0,.string ⟨#[]⟩,.int .u64 (wd n.2 0),.int .u64 (wd n.2 1),.int .u64 (wd n.2 2),.int .u64 (wd n.2 3)]
def ndc (l:List Nd):List Value:=l.flatMap ndV
theorem zcf (a b:List Nd):ndc (a++b)=ndc a++ndc b:=List.flatMap_append
theorem zdO (n:Nd):ndc [n]=ndV n:=by unfold ndc;rw [List.flatMap_cons,List.flatMap_nil,List.append_nil]
def ndI (s:zaY) (i:Nat):List Nd:=match s[i]? with
 | some p=>(5,spn p.1 p.2)::(if 0<i then [(7,0#256)] else [])
 | none=>[]
def zcw (s:zaY) (k:Nat):List Nd:=(List.range k).flatMap (ndI s)
theorem zcK (s:zaY) (k:Nat):zcw s (k+1)=zcw s k++ndI s k:=by unfold zcw;rw [List.range_succ,List.flatMap_append];simp
def ptI (ss:List zaY) (i:Nat):List Nd:=match ss[i]? with
 | some s=>zcw s s.length++(if 0<i then [(8,0#256)] else [])
 | none=>[]
def zdG (ss:List zaY) (k:Nat):List Nd:=(List.range k).flatMap (ptI ss)
theorem zcL (ss:List zaY) (k:Nat):zdG ss (k+1)=zdG ss k++ptI ss k:=by unfold zdG;rw [List.range_succ,List.flatMap_append];simp
theorem znV (s:zaY) (i:Nat):(ndI s i).length<=2:=by
 unfold ndI
 split
 ·split <;> simp
 ·simp
theorem zej (s:zaY) (k:Nat):(zcw s k).length<=2 * k:=by
 induction k with
 | zero=>simp [zcw]
 | succ k ih=>rw [zcK,lA];have:=znV s k;omega
theorem zfD (ss:List zaY) (k:Nat) (h:∀s∈ss,s.length<=4):(zdG ss k).length<=9 * k:=by
 induction k with
 | zero=>simp [zdG]
 | succ k ih =>
  rw [zcL,lA];have:(ptI ss k).length<=9:=by
   unfold ptI
   split
   ·next s hs =>
    have h1:=h s (List.mem_of_getElem? hs);have h2:=zej s s.length;rw [lA]
    split <;> simp <;> omega
   ·simp
  omega
theorem Tryz.info80:(Tryz.prog.info? 51).map (fun i=>(i.zero,i.size,i.bytes))=some (some (.agg #[.int .i64 0,.int .i64 0,.string ⟨#[]⟩,.int .u64 0,.int .u64 0,.int .u64 0,.int .u64 0]),7,64):=by kernel_rfl
abbrev ndA (op:Int) (x:BitVec 256):Array Value:=#[.int .i64 op,.int .i64 0,.string ⟨#[]⟩,.int .u64 (wd x 0),.int .u64 (wd x 1),.int .u64 (wd x 2),.int .u64 (wd x 3)]
abbrev ndZ (op:Int):Array Value:=#[.int .i64 op,.int .i64 0,.string ⟨#[]⟩,.int .u64 0,.int .u64 0,.int .u64 0,.int .u64 0]
theorem zdv (op:Int):(ndZ op).toList=ndV (op,0#256):=by unfold ndV;simp only [zak]
theorem zlD (w:World) (a:Obj) (cs:Array Value):∀(j:Nat) u,cs.toList[j]?=some u->((w.alloc a).alloc (.cells cs 51)).cell? ((⟨w.heap.size+1,0,none⟩:Addr).add j)=some u :=
 World.news_of_block (t:=51) (fr:=(0,0)) (by have h:=heap_alloc_new (w.alloc a) (.cells cs 51);rwa [zdu] at h)
theorem zdw (w:World) (cs:Array Value):∀(j:Nat) u,cs.toList[j]?=some u->(w.alloc (.cells cs 51)).cell? ((⟨w.heap.size,0,none⟩:Addr).add j)=some u :=
 World.news_of_block (t:=51) (fr:=(0,0)) (heap_alloc_new w _)
theorem zdo (n:Nd):∀u∈ndV n,u.oneCell'=true:=fun u hu=>by
 unfold ndV at hu;simp only [List.mem_cons,List.not_mem_nil,or_false] at hu
 rcases hu with rfl | rfl | rfl | rfl | rfl | rfl | rfl <;> rfl
theorem zjr {W W':World} {g off:Nat} {s:zaY} {row:Option Nat} (h:SpL W g off s) (hg:W.grownBy W' row) (hlt:g<W.heap.size) (hne:some g≠row):SpL W' g off s:=fun j p hp =>
 ⟨(hg.cell_far ⟨g,off+j * 2,none⟩ hlt hne).trans (h j p hp).1,(hg.cell_far ⟨g,off+j * 2+1,none⟩ hlt hne).trans (h j p hp).2⟩
structure AtN (w wr:World) (B:Nat) (v v':Value) (L:List Nd):Prop where
 o:wr.ownsRow B 51 7 v' L.length (ndc L)
 g:w.grownBy wr v.ownBlock
 k:∀k,v'.ownBlock=some k->v.ownBlock=some k∨w.heap.size<=k
theorem AtN.below {w wr w2:World} {B:Nat} {v v':Value} {L:List Nd} (h:AtN w wr B v v' L) (hb:Below wr.heap.size wr w2):AtN w w2 B v v' L :=
 ⟨zby h.o hb,h.g.trans (Below.grow hb _),h.k⟩
theorem AtN.alloc {w wr:World} {B:Nat} {v v':Value} {L:List Nd} (h:AtN w wr B v v' L) (o:Obj):AtN w (wr.alloc o) B v v' L:=h.below ((bR _ _).alloc (nL _) _)
theorem AtN.push {w wr w1:World} {B g cap:Nat} {v v':Value} {L:List Nd} {n:Nd} {ob:Obj} (h:AtN w wr B v v' L) (hown:w1.ownsRow B 51 7 (.slice (some ⟨g,0,none⟩) (L.length+1) cap) (L.length+1) (ndc L++ndV n)) (hgrow:(wr.alloc ob).grownBy w1 v'.ownBlock) (hat:v'.ownBlock=some g∨g=wr.heap.size+1) :
  AtN w w1 B v (.slice (some ⟨g,0,none⟩) (L.length+1) cap) (L++[n]):=by
 refine ⟨by rw [lA,zcf,zdO];exact hown,(h.g.trans (World.grownBy_alloc wr ob _)).andThen hgrow (fun j e=>?_),fun k e=>?_⟩
 ·rcases h.k j e with q | q
  ·exact .inr q
  ·exact .inl q
 ·have e2:g=k:=Option.some.inj e
  rcases hat with q | q
  ·rcases h.k g q with q2 | q2
   ·exact .inl (by rw [q2,e2])
   ·exact .inr (by omega)
  ·have:=h.g.size
   exact .inr (by omega)
theorem zeE (v:Value) (L:List Nd) (B gx cx:Nat) (s:zaY) (hs:∀p∈s,0<=p.1/\p.1<=p.2/\p.2<=255) (hsl:s.length<=4) (hL:L.length<=20000000) (w:World) (ho:w.ownsRow B 51 7 v L.length (ndc L)) (hB:B<=w.heap.size) (hx:SpL w gx 0 s) (hgx:gx<w.heap.size) (hne:v.ownBlock≠some gx) :
  Calls Tryz.prog 196 #[v,.slice (some ⟨gx,0,none⟩) s.length cx] w fun e w'=>∃v',e=.returned v'/\AtN w w' B v v' (L++zcw s s.length):=by
 obtain ⟨i0,hinf,hz0,hz1,hz2⟩:=info_parts Tryz.info80;have HA:Hid (AtN w w B v v (L++zcw s 0)):=⟨by unfold zcw;simpa using ho,World.grownBy.refl _ _,fun k e=>.inl e⟩;have HX:=hO hx;have HNe:Hid (some gx≠v.ownBlock):=Ne.symm hne;have HS:=hO hs;have HG:Hid (∀k,k<s.length->∃p,s[k]?=some p):=fun k hk=>⟨_,gE hk⟩
 clear ho hx hne hs;go_enter Tryz.func196,Tryz.ntmps196;go_wp2_with fail;go_loopw [0,11] (fun u t wr=>∃k:Nat,k<=s.length/\t=.int .i64 k/\Hid (AtN w wr B v u (L++zcw s k))) (fun _ t _=>s.length - (intOf t).toNat)
 case atStart=>exact ⟨0,by omega,by go_num,HA⟩
 case round =>
  obtain ⟨k,hk,rfl,HW⟩:=hrel;clear HA;by_cases hlt:k<s.length
  ·obtain ⟨⟨p1,p2⟩,hp⟩:=HG k hlt
   have HN:Hid (zcw s (k+1)=zcw s k++((5,spn p1 p2)::(if 0<k then [(7,0#256)] else []))):=(by show _=_;rw [zcK];unfold ndI;rw [hp]);obtain ⟨b0,b1,b2⟩:=HS _ (List.mem_of_getElem? hp);obtain ⟨c0,c1⟩:=(zjr HX.out HW.g hgx HNe.out) k _ hp;dsimp only at b0 b1 b2 c0 c1;rw [Nat.zero_add] at c0 c1;have HR:Hid (∀w,Cl 201 #[.int .i64 p1,.int .i64 p2] w (rB w (.tuple #[sv (spn p1 p2),.int .i64 0]))):=fun w=>zjl p1 p2 w b0 b1 b2
   have hll:=zej s k;have z0:(0:Int)<=(k:Int):=by omega
   have z1:(k:Int)<(s.length:Int):=by omega
   have hLl:(L++zcw s k).length<=20000008:=by rw [lA];omega
   have hwB:B<=wr.heap.size:=Nat.le_trans hB HW.g.size;generalize zcw s k=T at *;generalize hM:L++T=M at *;have HM:=hO hM;clear hp hM HG HS hll;generalize spn p1 p2=x at *;generalize s.length=m at *;go_wp2_with fail;refine (HR _).mono ?_;rintro e w2 ⟨rfl,hb2⟩;have HW2:Hid (AtN w w2 B v u0 M):=(HW.alloc _).below hb2;have hsz2:=hb2.size;rw [zdu] at hsz2;clear hb2 HW c0 c1;have hO2:=HW2.o;go_wp2_with (at_builtin;refine wpList_append_lies _ rfl _ _ 34 rfl B 51 i0 (.agg #[.int .i64 0,.int .i64 0,.string ⟨#[]⟩,.int .u64 0,.int .u64 0,.int .u64 0,.int .u64 0]) 7 64 Tryz.underlying34 hinf hz0 hz1 hz2 rfl (by decide) _ _ _ rfl ((hO2.alloc _).alloc _) ⟨w2.heap.size+1,0,none⟩ 1 1 (ndV (5,x)) rfl rfl (zlD w2 _ (ndA 5 x)) (zdo _) (by decide) ?c3 ?c4 ?c5 (w2.heap.size+1+1) (by simp) ?_)
   case c3=>unfold maxLen;omega
   case c4=>omega
   case c5=>simp;omega
   intro g cap w3 hown hgrow hat hlt3;have HW3:Hid (AtN w w3 B v (.slice (some ⟨g,0,none⟩) (M.length+1) cap) (M++[(5,x)])):=(HW2.alloc _).push hown hgrow (by rw [zdu];exact hat);have hsz3:=hgrow.size;rw [zdu,zdu] at hsz3;clear hown hgrow hat hO2 HW2;by_cases hk0:0<k
   ·have z2:(0:Int)<(k:Int):=by omega
    have hO3:=HW3.o;have HN2:Hid (L++zcw s (k+1)=(M++[(5,x)])++[(7,0#256)]):=(by show _=_;rw [HN.out,iP hk0,<-HM.out];simp);go_wp2_with (at_builtin;refine wpList_append_lies _ rfl _ _ 34 rfl B 51 i0 (.agg #[.int .i64 0,.int .i64 0,.string ⟨#[]⟩,.int .u64 0,.int .u64 0,.int .u64 0,.int .u64 0]) 7 64 Tryz.underlying34 hinf hz0 hz1 hz2 rfl (by decide) _ _ _ rfl (hO3.alloc _) ⟨w3.heap.size,0,none⟩ 1 1 (ndZ 7).toList rfl rfl (zdw w3 (ndZ 7)) (by rw [zdv];exact zdo _) (by decide) ?c3 ?c4 ?c5 (w3.heap.size+1) (by simp) ?_)
    case c3=>simp;unfold maxLen;omega
    case c4=>simp;omega
    case c5=>simp;omega
    intro g2 cap2 w4 hown hgrow hat hlt4;have HW4:=(show Hid (AtN w w4 B v (.slice (some ⟨g2,0,none⟩) (M.length+1+1) cap2) (L++zcw s (k+1))) from (by
     have e:(M++[(5,x)]).length=M.length+1:=by simp
     rw [HN2.out];have hp:=HW3.push (g:=g2) (cap:=cap2) (n:=(7,0#256)) (by rw [e,<-zdv];exact hown) hgrow hat
     rwa [e] at hp))
    clear hown hgrow hat hO3 HW3;go_wp2
    go_roundw
    case rel=>exact ⟨k+1,by omega,by go_num,HW4⟩
    case measure=>simp [intOf];omega
   ·have hk00:k=0:=by omega
    have HN2:Hid (L++zcw s (k+1)=M++[(5,x)]):=(by show _=_;rw [HN.out,iN hk0,<-HM.out];simp);rw [<-HN2.out] at HW3;subst hk00;go_wp2
    go_roundw
    case rel=>exact ⟨0+1,by omega,by go_num,HW3⟩
    case measure=>simp [intOf];omega
  ·obtain rfl:k=s.length:=by omega
   clear HG HS HX;go_wp2
   go_ret
   exact ⟨_,rfl,HW.out⟩
theorem zfE:∀(f:Nat) (lo hi:Int),Blk lo hi->(hi - lo).toNat<=f->∀p∈pcs f lo hi,Blk p.1 p.2/\zdr p.1 p.2=none
 | 0,lo,hi,h,hf,p,hp=>by
  have hs:zdr lo hi=none:=by
   cases hs:zdr lo hi with
   | none=>rfl
   | some c=>have:=zbq h.cpl.2.2.2.1 h.cpl.2.2.2.2.1 hs;omega
  rw [zbJ hs,List.mem_singleton] at hp;rw [hp];exact ⟨h,hs⟩
 | f+1,lo,hi,h,hf,p,hp=>by
  cases hs:zdr lo hi with
  | none =>
   rw [zbJ hs,List.mem_singleton] at hp;rw [hp];exact ⟨h,hs⟩
  | some c =>
   have:=zbq h.cpl.2.2.2.1 h.cpl.2.2.2.2.1 hs;rw [zds hs] at hp
   rcases List.mem_append.1 hp with hp | hp
   ·exact zfE f lo (c - 1) (h.cut hs).1 (by omega) p hp
   ·exact zfE f c hi (h.cut hs).2 (by omega) p hp
theorem zdi {lo hi m:Int} (h:zb6 lo hi m=none):lo / m=hi / m∨(lo%m=0/\(hi+1)%m=0):=by
 unfold zb6 at h
 split at h
 ·next q=>exact .inl q
 ·split at h
  ·cases h
  ·split at h
   ·cases h
   ·next q1 q2 q3=>exact .inr ⟨by omega,by omega⟩
theorem znW {lo hi:Int} (h:zdr lo hi=none):(2<=szI lo->lo / 64=hi / 64∨(lo%64=0/\(hi+1)%64=0))/\(3<=szI lo->lo / 4096=hi / 4096∨(lo%4096=0/\(hi+1)%4096=0))/\(4<=szI lo->lo / 262144=hi / 262144∨(lo%262144=0/\(hi+1)%262144=0)):=by
 unfold zdr at h;have hb:=zeC lo;have key:∀(k:Nat) (m:Int),zcC lo hi (k+1) m=none->zb6 lo hi (m * 64)=none/\zcC lo hi k (m * 64)=none:=fun k m hk=>by
  rw [zcC] at hk
  split at hk
  ·cases hk
  ·next q=>exact ⟨q,hk⟩
 refine ⟨fun h2=>?_,fun h3=>?_,fun h4=>?_⟩
 ·rw [show szI lo - 1=(szI lo - 2)+1 from by omega] at h
  exact zdi (key _ _ h).1
 ·rw [show szI lo - 1=(szI lo - 3)+1+1 from by omega] at h
  exact zdi (key _ _ (key _ _ h).2).1
 ·rw [show szI lo - 1=(szI lo - 4)+1+1+1 from by omega] at h
  exact zdi (key _ _ (key _ _ (key _ _ h).2).2).1
def ordS (s:zaY):Prop:=∀p∈s,0<=p.1/\p.1<=p.2/\p.2<=255
theorem zlE {lo hi:Int} (h:Blk lo hi) (hs:zdr lo hi=none):ordS (shp (lo,hi)):=by
 obtain ⟨h1,h2,h3,h4,h5,h6⟩:=h.cpl;obtain ⟨k2,k3,k4⟩:=znW hs;unfold ordS shp;unfold szI at *;unfold Blk at h;intro p hp
 rcases zeg h1 with q | q | q | q
 ·dsimp only at hp
  rw [zeA q.1 q.2,zeA (by omega) (by omega)] at hp;simp only [List.zip_cons_cons,List.zip_nil_right,List.mem_cons,List.not_mem_nil,or_false] at hp;rw [hp];dsimp only;omega
 ·rw [iN (by omega),iP (by omega)] at k2
  have k2:=k2 (by omega);dsimp only at hp;rw [zeB q.1 q.2,zeB (by omega) (by omega)] at hp;simp only [List.zip_cons_cons,List.zip_nil_right,List.mem_cons,List.not_mem_nil,or_false] at hp
  rcases hp with hp | hp
  ·rw [hp];dsimp only;omega
  ·rw [hp];dsimp only;omega
 ·rw [iN (by omega),iN (by omega),iP (by omega)] at k2 k3
  have k2:=k2 (by omega);have k3:=k3 (by omega);dsimp only at hp;rw [zcH q,zcH (by omega)] at hp;simp only [List.zip_cons_cons,List.zip_nil_right,List.mem_cons,List.not_mem_nil,or_false] at hp
  rcases hp with hp | hp | hp
  ·rw [hp];dsimp only;omega
  ·rw [hp];dsimp only;omega
  ·rw [hp];dsimp only;omega
 ·rw [iN (by omega),iN (by omega),iN (by omega)] at k2 k3 k4
  have k2:=k2 (by omega);have k3:=k3 (by omega);have k4:=k4 (by omega);dsimp only at hp;rw [zdp q.1 q.2,zdp (by omega) (by omega)] at hp;simp only [List.zip_cons_cons,List.zip_nil_right,List.mem_cons,List.not_mem_nil,or_false] at hp
  rcases hp with hp | hp | hp | hp
  ·rw [hp];dsimp only;omega
  ·rw [hp];dsimp only;omega
  ·rw [hp];dsimp only;omega
  ·rw [hp];dsimp only;omega
theorem znX {lo hi:Int} (h:Blk lo hi):∀s∈shs lo hi,ordS s/\1<=s.length/\s.length<=4:=fun s hs=>by
 obtain ⟨p,hp,rfl⟩:=List.mem_map.1 hs;obtain ⟨h1,h2⟩:=zfE _ _ _ h (nL _) p hp;have hl:=zfz h1;have:=zeC p.1;exact ⟨zlE h1 h2,by rw [show p=(p.1,p.2) from rfl,hl];omega,by rw [show p=(p.1,p.2) from rfl,hl];omega⟩
theorem zdx (lo hi:Int):∀s∈zcI lo hi,ordS s/\1<=s.length/\s.length<=4:=fun s hs=>by
 unfold zcI at hs;obtain ⟨b,hb,h2⟩:=List.mem_flatMap.1 hs;unfold zea at h2;obtain ⟨k,hk,rfl⟩:=List.getElem_of_mem hb
 split at h2
 ·next q=>exact znX ((zfB (gE hk)).2.2.2 lo hi q) s h2
 ·cases h2
def zgt (ss:List zaY):List Nd:=if ss.length=0 then [(2,0#256)] else zdG ss ss.length
def PnV (w w':World) (lo hi:Int) (e:Ending):Prop :=
 if bdB lo=true/\bdB hi=true then
  (if lo<=hi then ∃v,e=.returned (.tuple #[v,.int .i64 0])/\w'.ownsRow w.heap.size 51 7 v (zgt (zcI lo hi)).length (ndc (zgt (zcI lo hi))) else e=.returned (.tuple #[.slice none 0 0,.int .i64 1]))
 else e=.returned (.tuple #[.slice none 0 0,.int .i64 30])
theorem zb3 {w w':World} (h:w.grownBy w' none):Below w.heap.size w w':=⟨h.os,h.tape,h.output,h.size,fun k hk=>h.block k hk (by simp)⟩
theorem zhE (w:World) (op:Int):(w.alloc (.cells (ndZ op) 51)).ownsRow w.heap.size 51 7 (.slice (some ⟨w.heap.size,0,none⟩) 1 1) 1 (ndc [(op,0#256)]):=by
 rw [zdO,<-zdv];exact ⟨rfl,.inr ⟨w.heap.size,1,ndZ op,rfl,nL _,heap_alloc_new w _,nL _,by unfold maxLen;omega,rfl,rfl⟩⟩
theorem ShV.err {w w':World} {lo hi:Int} {e:Ending} (h:ShV w w' lo hi e):(∃c,e=.returned (.tuple #[.slice none 0 0,.int .i64 c])/\c≠0/\∀w2 w3 e2,e2=.returned (.tuple #[.slice none 0 0,.int .i64 c])->PnV w2 w3 lo hi e2) ∨
  ((∃v xs,e=.returned (.tuple #[v,.int .i64 0])/\RR w' w.heap.size v (zcI lo hi) xs)/\∀w2 w3 e2,(∃v,e2=.returned (.tuple #[v,.int .i64 0])/\w3.ownsRow w2.heap.size 51 7 v (zgt (zcI lo hi)).length (ndc (zgt (zcI lo hi))))->PnV w2 w3 lo hi e2):=by
 unfold ShV at h
 split at h
 ·next q =>
  split at h
  ·next q2=>exact .inr ⟨h,fun _ _ _ h2=>by unfold PnV;rw [iP q,iP q2];exact h2⟩
  ·next q2=>exact .inl ⟨1,h,by omega,fun _ _ _ h2=>by unfold PnV;rw [iP q,iN q2];exact h2⟩
 ·next q=>exact .inl ⟨30,h,by omega,fun _ _ _ h2=>by unfold PnV;rw [iN q];exact h2⟩
theorem zgP (lo hi:Int) (w:World) (hv:VB w):Calls Tryz.prog 191 #[.int .i64 lo,.int .i64 hi] w fun e w'=>PnV w w' lo hi e/\Below w.heap.size w w':=by
 obtain ⟨i0,hinf,hz0,hz1,hz2⟩:=info_parts Tryz.info80;have HS:Hid (Cl 195 #[.int .i64 lo,.int .i64 hi] w fun e w'=>ShV w w' lo hi e/\Below w.heap.size w w'):=zia lo hi w hv;have HO:=hO (zdx lo hi);have HLn:=hO (zfC lo hi 5);rw [zdt] at HLn;clear hv;go_enter Tryz.func191,Tryz.ntmps191;go_wp2_with fail;refine HS.mono ?_;rintro e w1 ⟨hsh,hb1⟩;have HB1:=hO hb1;clear hb1 HS
 rcases hsh.err with ⟨c,rfl,hc,hP⟩ | ⟨⟨sv,xs,rfl,hR⟩,hP⟩
 ·have HP:=hO hP
  have ec:(c != 0)=true:=bne_iff_ne.2 hc;clear hsh hP hc;go_wp2
  go_ret2
  exact ⟨HP _ _ _ rfl,HB1.out⟩
 ·have HP:=hO hP
  have HR:=hO hR;clear hsh hP;generalize zcI lo hi=ss at *;have hlx:=hR.len;obtain ⟨A,cs,rfl⟩:∃A cs,sv=.slice A ss.length cs:=by
   rcases hR.o.2 with ⟨rfl,h0⟩ | ⟨g,cap,cur,rfl,_⟩
   ·exact ⟨none,0,by rw [<-hlx,h0]⟩
   ·exact ⟨_,_,by rw [hlx]⟩
  clear hR hlx;by_cases hn:ss.length=0
  ·have HE:Hid (zgt ss=[(2,0#256)]):=(by show _=_;unfold zgt;rw [iP hn])
   have e0:((ss.length:Int)==0)=true:=by rw [hn];rfl
   have HN:=hO (zhE w1 2);have HB2:Hid (Below w.heap.size w (w1.alloc (.cells (ndZ 2) 51))):=HB1.alloc HB1.size _;have hz1':=HB1.size;clear HO HR HLn hn;generalize ss.length=m at *;go_wp2
   go_ret2
   exact ⟨HP _ _ _ ⟨_,rfl,by rw [HE.out];exact za6 HN hz1'⟩,HB2.out⟩
  ·have HE:Hid (zgt ss=zdG ss ss.length):=(by show _=_;unfold zgt;rw [iN hn])
   have e0:((ss.length:Int)==0)=false:=bF (by omega);have HG:Hid (∀k,k<ss.length->∃s,ss[k]?=some s):=fun k hk=>⟨_,gE hk⟩
   have HPl:Hid (∀k,(zdG ss k).length<=9 * k):=fun k=>zfD ss k fun s hs=>(HO s hs).2.2
   clear hn;go_wp2_with fail;go_loopw [8,27] (fun u t wr=>∃k:Nat,k<=ss.length/\t=.int .i64 k/\Hid (AtN w1 wr w1.heap.size (.slice none 0 0) u (zdG ss k))) (fun _ t _=>ss.length - (intOf t).toNat)
   case atStart=>exact ⟨0,by omega,by go_num,⟨World.ownsRow_nil _ _ _ _,World.grownBy.refl _ _,fun k e=>.inl e⟩⟩
   case round =>
    obtain ⟨k,hk,rfl,HW⟩:=hrel;by_cases hlt:k<ss.length
    ·obtain ⟨s,hs⟩:=HG k hlt
     have HBw:Hid (Below w1.heap.size w1 wr):=zb3 HW.g;obtain ⟨g,cap,gx,cx,hA,hgl,_,hcell,hgx,hspl⟩:=(HR.below HBw.out).get hs
     cases hA
     have HI:Hid (zdG ss (k+1)=(zdG ss k++zcw s s.length)++(if 0<k then [(8,0#256)] else [])):=(by show _=_;rw [zcL];unfold ptI;rw [hs,List.append_assoc]);obtain ⟨ho1,_,ho3⟩:=HO s (List.mem_of_getElem? hs);have hplk:=HPl k;have hln:=HLn.out;obtain ⟨gx0,hgx0⟩:∃q:Nat,gx<w1.heap.size:=⟨0,by
      obtain ⟨g',cap',gx',cx',hA',_,_,hc',hgx',_⟩:=HR.get hs
      cases hA'
      have e1:=HBw.cell (p:=⟨g,k,none⟩) (World.block_lt_of_cell? w1 _ hc');rw [hcell] at e1;rw [hc'] at e1
      cases e1
      exact hgx'⟩
     have HAS:Hid (Cl 196 #[u8,.slice (some ⟨gx,0,none⟩) s.length cx] wr fun e w'=>∃v',e=.returned v'/\AtN wr w' w1.heap.size u8 v' (zdG ss k++zcw s s.length)):=zeE u8 (zdG ss k) w1.heap.size gx cx s ho1 ho3 (by omega) wr HW.o HBw.size hspl hgx (fun e=>by
      rcases HW.k gx e with q | q
      ·cases q
      ·omega)
     have z0:(0:Int)<=(k:Int):=by omega
     have z1:(k:Int)<(ss.length:Int):=by omega
     have z9:(ss.length:Int)<=1114112:=by omega
     have hndl:=zej s s.length;have hLl:(zdG ss k++zcw s s.length).length<=20000000:=by rw [lA];omega
     generalize hM:zdG ss k++zcw s s.length=M at *;clear hM hplk hln hspl ho1 hndl;go_wp2_with fail;refine HAS.mono ?_;rintro e w2 ⟨v2,rfl,hA2⟩;have HW2:=(show Hid (AtN w1 w2 w1.heap.size (.slice none 0 0) v2 M) from ⟨hA2.o,HW.g.andThen hA2.g (fun j e=>by
      rcases HW.k j e with q | q
      ·cases q
      ·exact .inl q),fun j e=>by
       rcases hA2.k j e with q | q
       ·exact HW.k j q
       ·have:=HBw.size;exact .inr (by omega)⟩)
     have hsz2:=hA2.g.size;have hszw:=HBw.size;clear hA2 HAS HW HBw hcell;by_cases hk0:0<k
     ·have z2:(0:Int)<(k:Int):=by omega
      have hO3:=HW2.o;have HI2:Hid (zdG ss (k+1)=M++[(8,0#256)]):=(by show _=_;rw [HI.out,iP hk0]);go_wp2_with (at_builtin;refine wpList_append_lies _ rfl _ _ 34 rfl w1.heap.size 51 i0 (.agg #[.int .i64 0,.int .i64 0,.string ⟨#[]⟩,.int .u64 0,.int .u64 0,.int .u64 0,.int .u64 0]) 7 64 Tryz.underlying34 hinf hz0 hz1 hz2 rfl (by decide) _ _ _ rfl (hO3.alloc _) ⟨w2.heap.size,0,none⟩ 1 1 (ndZ 8).toList rfl rfl (zdw w2 (ndZ 8)) (by rw [zdv];exact zdo _) (by decide) ?c3 ?c4 ?c5 (w2.heap.size+1) (by simp) ?_)
      case c3=>unfold maxLen;omega
      case c4=>omega
      case c5=>simp;omega
      intro g2 cap2 w4 hown hgrow hat hlt4;have HW4:=(show Hid (AtN w1 w4 w1.heap.size (.slice none 0 0) (.slice (some ⟨g2,0,none⟩) (M.length+1) cap2) (zdG ss (k+1))) from (by
       rw [HI2.out];exact HW2.push (n:=(8,0#256)) (by rw [<-zdv];exact hown) hgrow hat))
      clear hown hgrow hat hO3 HW2;go_wp2
      go_roundw
      case rel=>exact ⟨k+1,by omega,by go_num,HW4⟩
      case measure=>simp [intOf];omega
     ·have hk00:k=0:=by omega
      have HI2:Hid (zdG ss (k+1)=M):=(by show _=_;rw [HI.out,iN hk0,List.append_nil]);rw [<-HI2.out] at HW2;subst hk00;go_wp2
      go_roundw
      case rel=>exact ⟨0+1,by omega,by go_num,HW2⟩
      case measure=>simp [intOf];omega
    ·obtain rfl:k=ss.length:=by omega
     have HB3:Hid (Below w.heap.size w wr):=HB1.trans ((zb3 HW.g).mono HB1.size);have hz:=HB1.size;rw [<-HE.out] at HW;clear HG HR HO HPl HE;go_wp2
     go_ret2
     exact ⟨HP _ _ _ ⟨_,rfl,za6 HW.o hz⟩,HB3.out⟩
end Go.Proofs.YtkihfkcmcdiajaaGreatDoor.R
namespace Go.Proofs.YtkihfkcmcdiajaaGreatDoor.N
open Go.RowKit
def cvN (n:R.Nd):Nd:=⟨n.1,0,⟨#[]⟩,wd n.2 0,wd n.2 1,wd n.2 2,wd n.2 3⟩
theorem zjs (l:List R.Nd):R.ndc l=T.ndc (l.map cvN):=by
 unfold R.ndc T.ndc;rw [List.flatMap_map];rfl
def rnP (lo hi:Int):List Nd:=(R.zgt (R.zcI lo hi)).map cvN
def tmL (tx:ByteArray):List Nd:=[⟨1,0,⟨#[]⟩,0,0,0,0⟩,⟨22,0,tx,0,0,0,0⟩]
theorem ck_tm (tx:ByteArray):((T.ck (tmL tx)).2==0)=T.tmB tx:=by
 have e:(⟨#[]⟩:ByteArray)=ByteArray.empty:=rfl
 cases h:T.tmB tx <;> simp [tmL,T.ck,T.zlt,T.er,T.alE,T.fdF,T.txF,T.nuF,T.seF,T.ar,T.run,T.pt,T.mk,T.arN,T.zdF,h,e]
theorem rd_two (w:World) (a b:Nd):T.RdN (w.alloc (.cells #[.int .i64 a.op,.int .i64 a.nn,.string a.tx,.int .u64 a.s0,.int .u64 a.s1,.int .u64 a.s2,.int .u64 a.s3,.int .i64 b.op,.int .i64 b.nn,.string b.tx,.int .u64 b.s0,.int .u64 b.s1,.int .u64 b.s2,.int .u64 b.s3] 51)) (some ⟨w.heap.size,0,none⟩) [a,b]:=fun _=>by
 refine ⟨w.heap.size,0,rfl,by rw [sA];omega,?_⟩;refine T.zji (B:=w.heap.size) (n:=2) (cap:=2) (xs:=[]) ?_;rw [List.append_nil];exact ⟨rfl,.inr ⟨w.heap.size,2,_,rfl,nL _,heap_alloc_new w _,nL _,by unfold maxLen;omega,rfl,rfl⟩⟩
theorem zjt (tx:ByteArray) (hs:tx.size<=140737488355328) (W:World):Calls Tryz.prog 185 #[.string tx] W (rB W (.bool (T.tmB tx))):=by
 have HC:Hid (∀_:Unit,Cl 16 #[.slice (some ⟨W.heap.size,0,none⟩) 2 2] (W.alloc (.cells #[.int .i64 1,.int .i64 0,.string ⟨#[]⟩,.int .u64 0,.int .u64 0,.int .u64 0,.int .u64 0,.int .i64 22,.int .i64 0,.string tx,.int .u64 0,.int .u64 0,.int .u64 0,.int .u64 0] 51)) fun e w'=>e=.returned (.tuple #[.int .i64 (T.ck (tmL tx)).1,.int .i64 (T.ck (tmL tx)).2])/\Below (W.heap.size+1) (W.alloc (.cells #[.int .i64 1,.int .i64 0,.string ⟨#[]⟩,.int .u64 0,.int .u64 0,.int .u64 0,.int .u64 0,.int .i64 22,.int .i64 0,.string tx,.int .u64 0,.int .u64 0,.int .u64 0,.int .u64 0] 51)) w'):=fun _=>by
  have h:=T.zf2 (tmL tx) (some ⟨W.heap.size,0,none⟩) 2 (by show 2<=_;omega) (by intro n hn;rcases List.mem_cons.1 hn with rfl | hn;exact Nat.zero_le _;rw [List.mem_singleton.1 hn];exact hs) _ (rd_two W _ _);(try unfold rB at h);rw [sA] at h;exact h
 have HE:Hid (((T.ck (tmL tx)).2==0)=T.tmB tx):=ck_tm tx;generalize T.ck (tmL tx)=r at *;go_enter Tryz.func185,Tryz.ntmps185;go_wp2_with fail;refine (HC ()).mono ?_;rintro e w1 ⟨rfl,hb⟩;have HB:Hid (Below W.heap.size W w1):=(zaa W _).trans (hb.mono (Nat.le_succ _));clear hb HC;go_wp2_with fail;go_ret
 exact ⟨by rw [<-HE.out];rfl,HB.out⟩
def lfN (t:Tk):List Nd:=if t.kd=2 then (if t.tx.size=0 then [nd0 1] else [⟨4,0,t.tx,0,0,0,0⟩]) else if t.kd=3∨t.kd=28 then [⟨5,0,⟨#[]⟩,t.s0,t.s1,t.s2,t.s3⟩] else if t.kd=5 then rnP t.nn t.s0 else if t.kd=18 then [nd0 3] else if t.kd=30 then [nd0 2] else if t.kd=1 then [⟨6,0,t.tx,0,0,0,0⟩] else [nd0 1]
theorem own_nd (W:World) (n:Nd) (B:Nat) (hB:B<=W.heap.size):(W.alloc (.cells #[.int .i64 n.op,.int .i64 n.nn,.string n.tx,.int .u64 n.s0,.int .u64 n.s1,.int .u64 n.s2,.int .u64 n.s3] 51)).ownsRow B 51 7 (.slice (some ⟨W.heap.size,0,none⟩) 1 1) 1 (T.ndc [n]):=by
 rw [T.zdO];exact ⟨rfl,.inr ⟨W.heap.size,1,_,rfl,hB,heap_alloc_new W _,nL _,by unfold maxLen;omega,rfl,rfl⟩⟩
theorem zcM (w:World) (a b:Obj) (n:Nd):(((w.alloc a).alloc b).alloc (.cells #[.int .i64 n.op,.int .i64 n.nn,.string n.tx,.int .u64 n.s0,.int .u64 n.s1,.int .u64 n.s2,.int .u64 n.s3] 51)).ownsRow w.heap.size 51 7 (.slice (some ⟨w.heap.size+1+1,0,none⟩) 1 1) 1 (T.ndc [n]):=by
 have h:=own_nd ((w.alloc a).alloc b) n w.heap.size (by rw [sA,sA];omega)
 rwa [sA,sA] at h
theorem zcd (w:World) (a b c:Obj):Below w.heap.size w (((w.alloc a).alloc b).alloc c):=(((bR _ _).alloc (nL _) _).alloc (by rw [sA];omega) _).alloc (by rw [sA,sA];omega) _
def LfV (w w':World) (M:List Nd) (e:Ending):Prop:=∃v,e=.returned v/\w'.ownsRow w.heap.size 51 7 v M.length (T.ndc M)
theorem znY (t:Tk) (hk:t.kd=18) (w:World):Calls Tryz.prog 184 #[tkG t] w fun e w'=>LfV w w' [nd0 3] e/\Below w.heap.size w w':=by
 obtain ⟨kd,nn,fr,en,tx,s0,s1,s2,s3⟩:=t;obtain rfl:kd=18:=hk;go_enter Tryz.func184,Tryz.ntmps184;go_wp2_with fail;go_ret
 exact ⟨⟨_,rfl,zcM w _ _ (nd0 3)⟩,zcd _ _ _ _⟩
theorem znZ (t:Tk) (hk:t.kd=30) (w:World):Calls Tryz.prog 184 #[tkG t] w fun e w'=>LfV w w' [nd0 2] e/\Below w.heap.size w w':=by
 obtain ⟨kd,nn,fr,en,tx,s0,s1,s2,s3⟩:=t;obtain rfl:kd=30:=hk;go_enter Tryz.func184,Tryz.ntmps184;go_wp2_with fail;go_ret
 exact ⟨⟨_,rfl,zcM w _ _ (nd0 2)⟩,zcd _ _ _ _⟩
theorem leaf_1 (t:Tk) (hk:t.kd=1) (w:World):Calls Tryz.prog 184 #[tkG t] w fun e w'=>LfV w w' [⟨6,0,t.tx,0,0,0,0⟩] e/\Below w.heap.size w w':=by
 obtain ⟨kd,nn,fr,en,tx,s0,s1,s2,s3⟩:=t;obtain rfl:kd=1:=hk;go_enter Tryz.func184,Tryz.ntmps184;go_wp2_with fail;go_ret
 exact ⟨⟨_,rfl,zcM w _ _ (⟨6,0,tx,0,0,0,0⟩)⟩,zcd _ _ _ _⟩
theorem leaf_3 (t:Tk) (hk:t.kd=3) (w:World):Calls Tryz.prog 184 #[tkG t] w fun e w'=>LfV w w' [⟨5,0,⟨#[]⟩,t.s0,t.s1,t.s2,t.s3⟩] e/\Below w.heap.size w w':=by
 obtain ⟨kd,nn,fr,en,tx,s0,s1,s2,s3⟩:=t;obtain rfl:kd=3:=hk;go_enter Tryz.func184,Tryz.ntmps184;go_wp2_with fail;go_ret
 exact ⟨⟨_,rfl,zcM w _ _ (⟨5,0,⟨#[]⟩,s0,s1,s2,s3⟩)⟩,zcd _ _ _ _⟩
theorem zn0 (t:Tk) (hk:t.kd=28) (w:World):Calls Tryz.prog 184 #[tkG t] w fun e w'=>LfV w w' [⟨5,0,⟨#[]⟩,t.s0,t.s1,t.s2,t.s3⟩] e/\Below w.heap.size w w':=by
 obtain ⟨kd,nn,fr,en,tx,s0,s1,s2,s3⟩:=t;obtain rfl:kd=28:=hk;go_enter Tryz.func184,Tryz.ntmps184;go_wp2_with fail;go_ret
 exact ⟨⟨_,rfl,zcM w _ _ (⟨5,0,⟨#[]⟩,s0,s1,s2,s3⟩)⟩,zcd _ _ _ _⟩
theorem zn1 (t:Tk) (hk:t.kd=29) (w:World):Calls Tryz.prog 184 #[tkG t] w fun e w'=>LfV w w' [nd0 1] e/\Below w.heap.size w w':=by
 obtain ⟨kd,nn,fr,en,tx,s0,s1,s2,s3⟩:=t;obtain rfl:kd=29:=hk;go_enter Tryz.func184,Tryz.ntmps184;go_wp2_with fail;go_ret
 exact ⟨⟨_,rfl,zcM w _ _ (nd0 1)⟩,zcd _ _ _ _⟩
theorem zn2 (t:Tk) (hk:t.kd=2) (ht:t.tx.size=0) (w:World):Calls Tryz.prog 184 #[tkG t] w fun e w'=>LfV w w' [nd0 1] e/\Below w.heap.size w w':=by
 obtain ⟨kd,nn,fr,en,tx,s0,s1,s2,s3⟩:=t;obtain rfl:kd=2:=hk;have e1:tx=⟨#[]⟩:=by
  have h:tx.size=0:=ht;obtain ⟨d⟩:=tx;rw [Array.eq_empty_of_size_eq_zero (show d.size=0 from h)]
 subst e1;clear ht;go_enter Tryz.func184,Tryz.ntmps184;go_wp2_with fail;go_ret
 exact ⟨⟨_,rfl,zcM w _ _ (nd0 1)⟩,zcd _ _ _ _⟩
theorem leaf_2 (t:Tk) (hk:t.kd=2) (ht:¬t.tx.size=0) (w:World):Calls Tryz.prog 184 #[tkG t] w fun e w'=>LfV w w' [⟨4,0,t.tx,0,0,0,0⟩] e/\Below w.heap.size w w':=by
 obtain ⟨kd,nn,fr,en,tx,s0,s1,s2,s3⟩:=t;obtain rfl:kd=2:=hk;have e1:tx.toList.isEmpty=false:=T.zdP ht;clear ht;go_enter Tryz.func184,Tryz.ntmps184;go_wp2_with fail;go_ret
 exact ⟨⟨_,rfl,zcM w _ _ (⟨4,0,tx,0,0,0,0⟩)⟩,zcd _ _ _ _⟩
theorem leaf_5 (t:Tk) (hk:t.kd=5) (hn:0<=t.nn/\t.nn<=t.s0/\t.s0<=1114111) (w:World) (hv:R.VB w):Calls Tryz.prog 184 #[tkG t] w fun e w'=>LfV w w' (rnP t.nn t.s0) e/\Below w.heap.size w w':=by
 obtain ⟨kd,nn,fr,en,tx,s0,s1,s2,s3⟩:=t;obtain rfl:kd=5:=hk;dsimp only at hn ⊢;have HP:Hid (∀W,R.VB W->Cl 191 #[.int .i64 nn,.int .i64 s0] W fun e w'=>(∃v,e=.returned (.tuple #[v,.int .i64 0])/\w'.ownsRow W.heap.size 51 7 v (rnP nn s0).length (T.ndc (rnP nn s0)))/\Below W.heap.size W w'):=fun W h=>by
  refine (R.zgP nn s0 W h).mono ?_;rintro e w' ⟨h1,h2⟩;refine ⟨?_,h2⟩;unfold R.PnV at h1;rw [iP ⟨by unfold R.bdB;exact decide_eq_true (by omega),by unfold R.bdB;exact decide_eq_true (by omega)⟩,iP hn.2.1] at h1;obtain ⟨v,h3,h4⟩:=h1;exact ⟨v,h3,by unfold rnP;rw [List.length_map,<-zjs];exact h4⟩
 have HV:=hO hv;have u1:IntKind.i64.wrap s0=s0:=by rw [wI];omega
 clear hv hn;generalize rnP nn s0=M at *;go_enter Tryz.func184,Tryz.ntmps184;go_wp2_with fail;have hb2:∀a b:Obj,Below w.heap.size w ((w.alloc a).alloc b):=fun a b=>((bR _ _).alloc (nL _) _).alloc (by rw [sA];omega) _
 refine (HP _ (HV.below (hb2 _ _) HV.lt)).mono ?_;rintro e w1 ⟨⟨v,rfl,ho⟩,hb⟩;have HO:Hid (w1.ownsRow w.heap.size 51 7 v M.length (T.ndc M)/\Below w.heap.size w w1):=⟨za6 ho (by rw [sA,sA];omega),(hb2 _ _).trans (hb.mono (by rw [sA,sA];omega))⟩;clear ho hb hb2 HP HV;go_wp2_with fail;go_ret
 exact ⟨⟨v,rfl,HO.1⟩,HO.2⟩
theorem zlF (t:Tk) (hk:t.kd=2∨t.kd=3∨t.kd=28∨t.kd=5∨t.kd=18∨t.kd=29∨t.kd=30∨t.kd=1) (hn:t.kd=5->0<=t.nn/\t.nn<=t.s0/\t.s0<=1114111) (w:World) (hv:R.VB w):Calls Tryz.prog 184 #[tkG t] w fun e w'=>LfV w w' (lfN t) e/\Below w.heap.size w w':=by
 rcases hk with h | h | h | h | h | h | h | h
 ·by_cases q:t.tx.size=0
  ·rw [show lfN t=[nd0 1] from by unfold lfN;rw [iP h,iP q]];exact zn2 t h q w
  ·rw [show lfN t=[⟨4,0,t.tx,0,0,0,0⟩] from by unfold lfN;rw [iP h,iN q]];exact leaf_2 t h q w
 ·rw [show lfN t=[⟨5,0,⟨#[]⟩,t.s0,t.s1,t.s2,t.s3⟩] from by unfold lfN;rw [iN (by omega),iP (.inl h)]];exact leaf_3 t h w
 ·rw [show lfN t=[⟨5,0,⟨#[]⟩,t.s0,t.s1,t.s2,t.s3⟩] from by unfold lfN;rw [iN (by omega),iP (.inr h)]];exact zn0 t h w
 ·rw [show lfN t=rnP t.nn t.s0 from by unfold lfN;rw [iN (by omega),iN (by omega),iP h]];exact leaf_5 t h (hn h) w hv
 ·rw [show lfN t=[nd0 3] from by unfold lfN;rw [iN (by omega),iN (by omega),iN (by omega),iP h]];exact znY t h w
 ·rw [show lfN t=[nd0 1] from by unfold lfN;rw [iN (by omega),iN (by omega),iN (by omega),iN (by omega),iN (by omega),iN (by omega)]];exact zn1 t h w
 ·rw [show lfN t=[nd0 2] from by unfold lfN;rw [iN (by omega),iN (by omega),iN (by omega),iN (by omega),iP h]];exact znZ t h w
 ·rw [show lfN t=[⟨6,0,t.tx,0,0,0,0⟩] from by unfold lfN;rw [iN (by omega),iN (by omega),iN (by omega),iN (by omega),iN (by omega),iP h]];exact leaf_1 t h w
theorem zju {rn:Int->Int->List Nd} (hr:∀a b,(rn a b).length+1<=10027010) {t:Tk} {k2:Int} {p:List Nd×Nat} (h:zbZ rn t k2=.inl p):p.1.length+1<=10027010:=by
 unfold zbZ at h;by_cases c0:t.kd=2
 ·rw [iP c0] at h
  cases h;first | exact hr _ _ | (show List.length _+1<=_;simp;done) | (show (if _ then _ else _:List Nd).length+1<=_;split <;> simp)
 rw [iN c0] at h;by_cases c1:t.kd=3∨t.kd=28
 ·rw [iP c1] at h
  cases h;first | exact hr _ _ | (show List.length _+1<=_;simp;done) | (show (if _ then _ else _:List Nd).length+1<=_;split <;> simp)
 rw [iN c1] at h;by_cases c2:t.kd=5
 ·rw [iP c2] at h
  cases h;first | exact hr _ _ | (show List.length _+1<=_;simp;done) | (show (if _ then _ else _:List Nd).length+1<=_;split <;> simp)
 rw [iN c2] at h;by_cases c3:t.kd=18
 ·rw [iP c3] at h
  cases h;first | exact hr _ _ | (show List.length _+1<=_;simp;done) | (show (if _ then _ else _:List Nd).length+1<=_;split <;> simp)
 rw [iN c3] at h;by_cases c4:t.kd=29
 ·rw [iP c4] at h
  cases h;first | exact hr _ _ | (show List.length _+1<=_;simp;done) | (show (if _ then _ else _:List Nd).length+1<=_;split <;> simp)
 rw [iN c4] at h;by_cases c5:t.kd=30
 ·rw [iP c5] at h
  cases h;first | exact hr _ _ | (show List.length _+1<=_;simp;done) | (show (if _ then _ else _:List Nd).length+1<=_;split <;> simp)
 rw [iN c5] at h;by_cases c6:t.kd=1
 ·rw [iP c6] at h
  cases h;first | exact hr _ _ | (show List.length _+1<=_;simp;done) | (show (if _ then _ else _:List Nd).length+1<=_;split <;> simp)
 rw [iN c6] at h;by_cases c7:t.kd=16
 ·rw [iP c7] at h
  cases h
 rw [iN c7] at h;by_cases c8:t.kd=19
 ·rw [iP c8] at h
  by_cases d:k2=20
  ·rw [iP d] at h
   cases h;show List.length _+1<=_;simp
  ·rw [iN d] at h
   cases h
 rw [iN c8] at h;by_cases c9:t.kd=21
 ·rw [iP c9] at h
  cases h
 rw [iN c9] at h;by_cases c10:t.kd=23
 ·rw [iP c10] at h
  cases h
 rw [iN c10] at h
 cases h
theorem zic {rn:Int->Int->List Nd} {t:Tk} {k2:Int} {p:Int×List Nd} (h:zbZ rn t k2=.inr p):p.2.length<=1:=by
 unfold zbZ at h;by_cases c0:t.kd=2
 ·rw [iP c0] at h
  cases h
 rw [iN c0] at h;by_cases c1:t.kd=3∨t.kd=28
 ·rw [iP c1] at h
  cases h
 rw [iN c1] at h;by_cases c2:t.kd=5
 ·rw [iP c2] at h
  cases h
 rw [iN c2] at h;by_cases c3:t.kd=18
 ·rw [iP c3] at h
  cases h
 rw [iN c3] at h;by_cases c4:t.kd=29
 ·rw [iP c4] at h
  cases h
 rw [iN c4] at h;by_cases c5:t.kd=30
 ·rw [iP c5] at h
  cases h
 rw [iN c5] at h;by_cases c6:t.kd=1
 ·rw [iP c6] at h
  cases h
 rw [iN c6] at h;by_cases c7:t.kd=16
 ·rw [iP c7] at h
  cases h;show List.length _<=1;simp
 rw [iN c7] at h;by_cases c8:t.kd=19
 ·rw [iP c8] at h
  by_cases d:k2=20
  ·rw [iP d] at h
   cases h
  ·rw [iN d] at h
   cases h;show List.length _<=1;simp
 rw [iN c8] at h;by_cases c9:t.kd=21
 ·rw [iP c9] at h
  cases h;show List.length _<=1;simp
 rw [iN c9] at h;by_cases c10:t.kd=23
 ·rw [iP c10] at h
  cases h;show List.length _<=1;simp
 rw [iN c10] at h
 cases h;show List.length _<=1;simp
theorem PF_len (E:PE) (hr:∀a b,(E.rn a b).length+1<=10027010):∀(f m i d a:Nat) (ns:List Nd),i<=E.l.length->(m=5->i<E.l.length)->PF E f m i d=.inl (a,ns)->(m=0∨m=2∨m=4∨m=5->ns.length+1<=10027010 * (a - i))/\ns.length<=10027010 * (a - i):=by
 intro f
 induction f with
 | zero=>intro m i d a ns _ _ h;rw [PF] at h;cases h
 | succ f ih =>
  intro m i d a ns hi h5 h;rw [PF] at h;by_cases m0:m=0
  ·rw [iP m0] at h
   obtain ⟨a1,n1,r1,h⟩:=zaN h;obtain ⟨n2,r2,e2⟩:=zaZ h;obtain ⟨x1,x2,x3⟩:=za4 E _ _ _ _ _ _ hi (by omega) r1;obtain ⟨y1,y2,_⟩:=za4 E _ _ _ _ _ _ x2 (by omega) r2;obtain ⟨u1,u2⟩:=ih _ _ _ _ _ hi (by omega) r1;obtain ⟨v1,v2⟩:=ih _ _ _ _ _ x2 (by omega) r2;have:=u1 (by omega);dsimp only at y1 y2 e2 v2;rw [e2,lA];exact ⟨fun _=>by omega,by omega⟩
  rw [iN m0] at h;by_cases m1:m=1
  ·rw [iP m1] at h
   by_cases k7:kdA E i=7
   ·have hlt:=za8 (E:=E) (i:=i) (by omega)
    rw [iP k7] at h;obtain ⟨a1,n1,r1,h⟩:=zaN h;obtain ⟨n2,r2,e2⟩:=zaZ h;obtain ⟨x1,x2,x3⟩:=za4 E _ _ _ _ _ _ (by omega) (by omega) r1;obtain ⟨y1,y2,_⟩:=za4 E _ _ _ _ _ _ x2 (by omega) r2;obtain ⟨u1,u2⟩:=ih _ _ _ _ _ (by omega) (by omega) r1;obtain ⟨v1,v2⟩:=ih _ _ _ _ _ x2 (by omega) r2;have:=u1 (by omega);dsimp only at y1 y2 e2 v2;rw [e2,lA,lA,List.length_singleton];exact ⟨fun q=>by omega,by omega⟩
   ·rw [iN k7] at h
    cases h
    exact ⟨fun q=>by omega,by simp⟩
  rw [iN m1] at h;by_cases m2:m=2
  ·rw [iP m2] at h
   obtain ⟨a1,n1,r1,h⟩:=zaN h;obtain ⟨n2,r2,e2⟩:=zaZ h;obtain ⟨x1,x2,x3⟩:=za4 E _ _ _ _ _ _ hi (by omega) r1;obtain ⟨y1,y2,_⟩:=za4 E _ _ _ _ _ _ x2 (by omega) r2;obtain ⟨u1,u2⟩:=ih _ _ _ _ _ hi (by omega) r1;obtain ⟨v1,v2⟩:=ih _ _ _ _ _ x2 (by omega) r2;have:=u1 (by omega);dsimp only at y1 y2 e2 v2;rw [e2,lA];exact ⟨fun _=>by omega,by omega⟩
  rw [iN m2] at h;by_cases m3:m=3
  ·rw [iP m3] at h
   by_cases kb:bgn E i=true
   ·have hlt:=zc6 kb
    rw [iP kb] at h;obtain ⟨a1,n1,r1,h⟩:=zaN h;obtain ⟨n2,r2,e2⟩:=zaZ h;obtain ⟨x1,x2,x3⟩:=za4 E _ _ _ _ _ _ (by omega) (by omega) r1;obtain ⟨y1,y2,_⟩:=za4 E _ _ _ _ _ _ x2 (by omega) r2;obtain ⟨u1,u2⟩:=ih _ _ _ _ _ (by omega) (by omega) r1;obtain ⟨v1,v2⟩:=ih _ _ _ _ _ x2 (by omega) r2;have:=u1 (by omega);dsimp only at y1 y2 e2 v2;rw [e2,lA,lA,List.length_singleton];exact ⟨fun q=>by omega,by omega⟩
   ·rw [iN kb] at h
    cases h
    exact ⟨fun q=>by omega,by simp⟩
  rw [iN m3] at h;by_cases m4:m=4
  ·rw [iP m4] at h
   by_cases kb:bgn E i=true
   ·have hlt:=zc6 kb
    rw [iP kb] at h;by_cases k8:kdA E i=8∨kdA E i=9
    ·rw [iP k8] at h
     split at h
     ·cases h
     ·obtain ⟨a1,n1,r1,h⟩:=zaN h
      cases h
      obtain ⟨x1,x2,x3⟩:=za4 E _ _ _ _ _ _ (by omega) (by omega) r1;obtain ⟨u1,u2⟩:=ih _ _ _ _ _ (by omega) (by omega) r1;have:=u1 (by omega);rw [lA,List.length_singleton];exact ⟨fun _=>by omega,by omega⟩
    ·rw [iN k8] at h
     obtain ⟨a1,n1,r1,h⟩:=zaN h;obtain ⟨n2,r2,e2⟩:=zaZ h;obtain ⟨x1,x2,x3⟩:=za4 E _ _ _ _ _ _ (by omega) (fun _=>hlt) r1;obtain ⟨y1,y2,_⟩:=za4 E _ _ _ _ _ _ x2 (by omega) r2;obtain ⟨u1,u2⟩:=ih _ _ _ _ _ (by omega) (fun _=>hlt) r1;obtain ⟨v1,v2⟩:=ih _ _ _ _ _ x2 (by omega) r2;have:=u1 (by omega);dsimp only at y1 y2 e2 v2;rw [e2,lA];exact ⟨fun _=>by omega,by omega⟩
   ·rw [iN kb] at h;cases h
  rw [iN m4] at h;by_cases m5:m=5
  ·rw [iP m5] at h
   have hlt:=h5 m5
   cases hp:zbu E i with
   | inl p =>
    rw [hp] at h
    cases h
    have h1:=zi2 hlt hp;have h2:=zju hr hp;exact ⟨fun _=>by omega,by omega⟩
   | inr p =>
    rw [hp] at h;dsimp only at h;have h2:=zic hp
    split at h
    ·cases h
    ·obtain ⟨a1,n1,r1,h⟩:=zaN h
     obtain ⟨x1,x2,x3⟩:=za4 E _ _ _ _ _ _ (by omega) (by omega) r1;obtain ⟨u1,u2⟩:=ih _ _ _ _ _ (by omega) (by omega) r1;have:=u1 (by omega)
     split at h
     ·cases h
      rw [lA];exact ⟨fun _=>by omega,by omega⟩
     ·cases h
  rw [iN m5] at h
  cases hp:zgB E i with
  | inr q =>
   rw [hp] at h
   cases q with
   | none=>cases h;exact ⟨fun q=>by omega,by simp⟩
   | some c=>cases h
  | inl p =>
   rw [hp] at h;dsimp only at h;obtain ⟨n2,r2,e2⟩:=zaZ h;have h1:=zhr hp;obtain ⟨y1,y2,_⟩:=za4 E _ _ _ _ _ _ h1.2 (by omega) r2;obtain ⟨v1,v2⟩:=ih _ _ _ _ _ h1.2 (by omega) r2;dsimp only at y1 y2 e2 v2;rw [e2,lA,List.length_singleton];exact ⟨fun q=>by omega,by omega⟩
theorem zbU {E:PE} (hr:∀a b,(E.rn a b).length+1<=10027010) {m i d a:Nat} {ns:List Nd} (hi:i<=E.l.length) (h5:m=5->i<E.l.length) (h:gN E m i d=.inl (a,ns)):(m=0∨m=2∨m=4∨m=5->ns.length+1<=10027010 * (a - i))/\ns.length<=10027010 * (a - i):=PF_len E hr _ _ _ _ _ _ hi h5 h
theorem zjv (a b:Int):(rnP a b).length+1<=10027010:=by
 unfold rnP;rw [List.length_map];have h1:=R.zfC a b 5;rw [R.zdt] at h1;unfold R.zgt
 split
 ·simp
 ·have h2:=R.zfD (R.zcI a b) (R.zcI a b).length (fun s hs=>(R.zdx a b s hs).2.2)
  omega
structure OkE (E:PE):Prop where
 len:E.l.length<=65536
 rn:E.rn=rnP
 tm:E.tm=T.tmB
 rg:∀t∈E.l,t.kd=5->0<=t.nn/\t.nn<=t.s0/\t.s0<=1114111
 tx:∀t∈E.l,t.tx.size<=65536
 n0:∀t∈E.l,t.kd=10∨t.kd=11∨t.kd=12->t.nn=0
theorem OkE.rl {E:PE} (h:OkE E):∀a b,(E.rn a b).length+1<=10027010:=fun a b=>by rw [h.rn];exact zjv a b
theorem OkE.z {E:PE} (h:OkE E):E.l.length<=1000000:=Nat.le_trans h.len (by omega)
def PoR (E:PE) (z:Nat) (w0:World) (b:Nat) (tv:Value) (d:Nat) (W:World) (v:Value) (L:List Nd) (r:PR) (e:Ending) (W':World):Prop:=match r with
 | .inl p=>e=.returned (.tuple #[])/\∃v',RS E z w0 W' b tv p.1 d v' (L++p.2)/\Fr W W' b v v'
 | .inr q=>e=pnc (plA E z q.1) q.2/\Below w0.heap.size w0 W'
def Ct (F:Nat) (E:PE) (z:Nat) (w0:World) (b:Nat) (tv:Value) (i d:Nat) (r:PR):Prop :=
 ∀(W:World) (v:Value) (L:List Nd),RS E z w0 W b tv i d v L->L.length<=10027010 * i->Calls Tryz.prog F #[.pointer (some ⟨b,0,none⟩)] W fun e W'=>PoR E z w0 b tv d W v L r e W'
def nxt (b:Nat) (W:World):Nat:=match W.cell? ⟨b,1,none⟩ with
 | some (.int .i64 i)=>i.toNat
 | _=>0
theorem RS.nx {E:PE} {z:Nat} {w0 W:World} {b:Nat} {tv:Value} {i d:Nat} {v:Value} {L:List Nd} (h:RS E z w0 W b tv i d v L):nxt b W=i:=by
 unfold nxt;rw [h.x.cl.2.1];rfl
theorem zfF {E:PE} {z:Nat} {w0 W:World} {b:Nat} {tv:Value} {i d:Nat} {v:Value} {L:List Nd} (h:RS E z w0 W b tv i d v L) (n:Nd) (hl:L.length+1<=2000000000000) :
  Calls Tryz.prog 110 #[.pointer (some ⟨b,0,none⟩),.slice (some ⟨W.heap.size,0,none⟩) 1 1] (W.alloc (.cells #[.int .i64 n.op,.int .i64 n.nn,.string n.tx,.int .u64 n.s0,.int .u64 n.s1,.int .u64 n.s2,.int .u64 n.s3] 51)) fun e W'=>e=.returned (.tuple #[])/\∃v',RS E z w0 W' b tv i d v' (L++[n])/\Fr W W' b v v':=by
 refine (zjk (h.later (zaa W _)) [n] W.heap.size 1 (by simp) hl (by rw [T.zdO];exact World.news_of_block (t:=51) (fr:=(0,0)) (heap_alloc_new W _))).mono ?_;rintro e w' ⟨h1,v',h2,h3⟩;exact ⟨h1,v',h2,(Fr.below b v (zaa W _)).trans h3⟩
theorem zjw {E:PE} (hE:OkE E) {z:Nat} {w0:World} {b:Nat} {tv:Value} {i d:Nat} (HS0:∀a,i<=a->a<=E.l.length->Ct 109 E z w0 b tv a d (gN E 2 a d)):Ct 81 E z w0 b tv i d (gN E 0 i d):=by
 intro W v L h hL;have hi:=h.hi;have hlen:=hE.len;have HS:Hid (∀a,i<=a->a<=E.l.length->Ct 109 E z w0 b tv a d (gN E 2 a d)):=HS0;have H:=hO h;have HE:=hO hE;have HC:Hid (∀_:Unit,Cl 109 #[.pointer (some ⟨b,0,none⟩)] W fun e W'=>PoR E z w0 b tv d W v L (gN E 2 i d) e W'):=fun _=>HS0 i (nL _) hi W v L h hL
 have HG:=hO (g0 E i d hi);clear h hE HS0
 cases hr:gN E 2 i d with
 | inr q =>
  rw [hr] at HC HG;have HV:Hid (gN E 0 i d=.inr q):=HG.out;rw [HV.out];clear HG hr HS;go_enter Tryz.func81,Tryz.ntmps81;go_wp2_with fail;refine (HC ()).mono ?_;rintro e w1 ⟨rfl,hb⟩;exact zah rfl ⟨rfl,hb⟩
 | inl p =>
  obtain ⟨a,ns⟩:=p;rw [hr] at HC HG;have hadv:=zbM hi (by omega) hr;have hlenN:=(zbU HE.rl hi (by omega) hr).1 (by omega);have HV:Hid (gN E 0 i d=ahd ns (gN E 1 a d)):=HG.out;generalize gN E 0 i d=R0 at *;have hia:=hadv.2.2 (by omega);have hal:=hadv.2.1;clear HG hr hadv;go_enter Tryz.func81,Tryz.ntmps81;go_wp2_with fail;refine (HC ()).mono ?_;rintro e w1 ⟨rfl,v1,h1,hf1⟩;have H1:=hO h1;have HF1:Hid (Fr W w1 b v v1):=hf1;obtain ⟨v0,hv0⟩:∃u,u=v:=⟨_,rfl⟩;rw [<-hv0] at HF1;clear HC h1 hf1;go_wp2_with fail;go_loopw [4] (fun _ wr=>∃(a:Nat) (v:Value) (M:List Nd),i<a/\a<=E.l.length/\(L++M).length<=10027010 * a/\Hid (RS E z w0 wr b tv a d v (L++M))/\Hid (Fr W wr b v0 v)/\Hid (R0=ahd M (gN E 1 a d))) (fun _ wr=>E.l.length - nxt b wr)
  case atStart=>exact ⟨a,v1,ns,hia,hal,by rw [lA];omega,H1,HF1,HV⟩
  case round =>
   obtain ⟨a,v,M,ha1,ha2,hlm,HW,HFW,HR⟩:=hrel;clear H1 HF1 HV hia hal hlenN;have HGa:=hO (g1 E a d ha2);obtain ⟨t,ht,hk,_,_⟩:=zav E z ha2;have HH:Hid (∀_:Unit,Cl 46 #[.pointer (some ⟨b,0,none⟩)] wr (rB wr (.agg #[.int .i64 t.kd,.int .i64 t.nn,.int .i64 t.fr,.int .i64 t.en,.string t.tx,.int .u64 t.s0,.int .u64 t.s1,.int .u64 t.s2,.int .u64 t.s3]))):=fun _=>zay HW t ht
   have fl0:=ziI;have hz:=HE.z;by_cases hkk:kdA E a=7
   ·have hlt:=za8 (E:=E) (i:=a) (by omega)
    rw [hk.trans hkk] at HH;have HP:Hid (∀W,RS E z w0 W b tv a d v (L++M)->Cl 80 #[.pointer (some ⟨b,0,none⟩),.int .i64 7] W fun e W'=>e=.returned (.tuple #[])/\RS E z w0 W' b tv (a+1) d v (L++M)/\Fr W W' b v v):=fun W h=>by
     have:=zcv h hlt hz;rw [hkk] at this;exact this
    clear ht hk;have HSa:Hid (∀W,RS E z w0 W b tv (a+1) d v (L++M)->Cl 109 #[.pointer (some ⟨b,0,none⟩)] W fun e W'=>PoR E z w0 b tv d W v (L++M) (gN E 2 (a+1) d) e W'):=fun W h=>HS (a+1) (by omega) (by omega) W v _ h (by omega)
    cases hr:gN E 2 (a+1) d with
    | inr q =>
     have HV:Hid (R0=.inr q):=by
      show R0=_
      rw [HR.out,HGa.out,iP hkk,hr];rfl
     rw [hr] at HSa;clear HR HGa hr hkk;go_wp2_with fail;refine (HH ()).mono ?_;rintro e w1 ⟨rfl,hb⟩;have HY:=hO (HW.later hb);have HFY:Hid (Fr wr w1 b v v):=Fr.below b v hb;clear hb HH;go_wp2_with fail;refine (HP _ HY.out).mono ?_;rintro e w2 ⟨rfl,h2,hf2⟩;have HX:=hO h2;have HFX:Hid (Fr wr w2 b v v):=HFY.trans hf2;clear h2 hf2 HY HFY HP;go_wp2_with fail;refine (HSa _ HX.out).mono ?_;rintro e w3 ⟨rfl,hb⟩;exact zah (P:=Tryz.prog) (fn:=Tryz.f81) rfl (by subst hv0;show PoR E z w0 b tv d W _ L R0 _ _;rw [HV.out];exact ⟨rfl,hb⟩)
    | inl p =>
     obtain ⟨a2,ns2⟩:=p;have hadv:=zbM (i:=a+1) (by omega) (by omega) hr;have hln:=(zbU HE.rl (i:=a+1) (by omega) (by omega) hr).1 (by omega);have hia:=hadv.2.2 (by omega);have hal:=hadv.2.1;have HV:Hid (R0=ahd (M++(ns2++[nd0 8])) (gN E 1 a2 d)):=by
      show R0=_
      rw [HR.out,HGa.out,iP hkk,hr]
      show ahd M (ahd (ns2++[nd0 8]) (gN E 1 a2 d))=_
      rw [zcr]
     rw [hr] at HSa;have HPu:Hid (∀W v,RS E z w0 W b tv a2 d v (L++M++ns2)->Cl 110 #[.pointer (some ⟨b,0,none⟩),.slice (some ⟨W.heap.size,0,none⟩) 1 1] (W.alloc (.cells #[.int .i64 8,.int .i64 0,.string ⟨#[]⟩,.int .u64 0,.int .u64 0,.int .u64 0,.int .u64 0] 51)) fun e W'=>e=.returned (.tuple #[])/\∃v',RS E z w0 W' b tv a2 d v' (L++(M++(ns2++[nd0 8])))/\Fr W W' b v v'):=fun W v h=>by
      have:=zfF h (nd0 8) (by rw [lA];omega);rw [List.append_assoc,List.append_assoc] at this;exact this
     have hll:(L++(M++(ns2++[nd0 8]))).length<=10027010 * a2:=by
      rw [lA] at hlm;rw [lA,lA,lA,List.length_singleton];omega
     clear HR HGa hr hkk hadv hln;go_wp2_with fail;refine (HH ()).mono ?_;rintro e w1 ⟨rfl,hb⟩;have HY:=hO (HW.later hb);have HFY:Hid (Fr wr w1 b v v):=Fr.below b v hb;clear hb HH;go_wp2_with fail;refine (HP _ HY.out).mono ?_;rintro e w2 ⟨rfl,h2,hf2⟩;have HX:=hO h2;have HFX:Hid (Fr wr w2 b v v):=HFY.trans hf2;clear h2 hf2 HY HFY HP;go_wp2_with fail;refine (HSa _ HX.out).mono ?_;rintro e w3 ⟨rfl,v3,h3,hf3⟩;have H3:=hO h3;have HF3:Hid (Fr W w3 b v0 v3):=HFW.trans (HFX.trans hf3);clear h3 hf3 HX HSa HFX;go_wp2_with fail;refine (HPu _ _ H3.out).mono ?_;rintro e w4 ⟨rfl,v4,h4,hf4⟩;have H4:=hO h4;have HF4:Hid (Fr W w4 b v0 v4):=HF3.trans hf4;clear h4 hf4 H3 HF3 HPu;go_wp2_with fail;go_roundw
     case rel=>exact ⟨a2,v4,_,by omega,hal,hll,H4,HF4,HV⟩
     case measure=>rw [HW.nx,H4.nx];omega
   ·have HV:Hid (R0=.inl (a,M)):=by
     show R0=_
     rw [HR.out,HGa.out,iN hkk]
     show Sum.inl (a,M++[])=_
     rw [List.append_nil]
    have t1:(t.kd==7)=false:=by rw [hk];exact bF hkk
    clear HR HGa hkk ht hk HS;go_wp2_with fail;refine (HH ()).mono ?_;rintro e w2 ⟨rfl,hb⟩;have HY:=hO (HW.later hb);have HFY:Hid (Fr wr w2 b v v):=Fr.below b v hb;clear hb HH HW;go_wp2_with fail;go_end0
    subst hv0;show PoR E z w0 b tv d W _ L R0 _ _
    rw [HV.out];exact ⟨rfl,_,HY.out,HFW.trans HFY.out⟩
theorem zjx {E:PE} (hE:OkE E) {z:Nat} {w0:World} {b:Nat} {tv:Value} {i d:Nat} (HS0:∀a,i<=a->a<=E.l.length->Ct 138 E z w0 b tv a d (gN E 4 a d)):Ct 109 E z w0 b tv i d (gN E 2 i d):=by
 intro W v L h hL;have hi:=h.hi;have hlen:=hE.len;have HS:Hid (∀a,i<=a->a<=E.l.length->Ct 138 E z w0 b tv a d (gN E 4 a d)):=HS0;have H:=hO h;have HE:=hO hE;have HC:Hid (∀_:Unit,Cl 138 #[.pointer (some ⟨b,0,none⟩)] W fun e W'=>PoR E z w0 b tv d W v L (gN E 4 i d) e W'):=fun _=>HS0 i (nL _) hi W v L h hL
 have HG:=hO (g2 E i d hi);clear h hE HS0
 cases hr:gN E 4 i d with
 | inr q =>
  rw [hr] at HC HG;have HV:Hid (gN E 2 i d=.inr q):=HG.out;rw [HV.out];clear HG hr HS;go_enter Tryz.func109,Tryz.ntmps109;go_wp2_with fail;refine (HC ()).mono ?_;rintro e w1 ⟨rfl,hb⟩;exact zah rfl ⟨rfl,hb⟩
 | inl p =>
  obtain ⟨a,ns⟩:=p;rw [hr] at HC HG;have hadv:=zbM hi (by omega) hr;have hlenN:=(zbU HE.rl hi (by omega) hr).1 (by omega);have HV:Hid (gN E 2 i d=ahd ns (gN E 3 a d)):=HG.out;generalize gN E 2 i d=R0 at *;have hia:=hadv.2.2 (by omega);have hal:=hadv.2.1;clear HG hr hadv;go_enter Tryz.func109,Tryz.ntmps109;go_wp2_with fail;refine (HC ()).mono ?_;rintro e w1 ⟨rfl,v1,h1,hf1⟩;have H1:=hO h1;have HF1:Hid (Fr W w1 b v v1):=hf1;obtain ⟨v0,hv0⟩:∃u,u=v:=⟨_,rfl⟩;rw [<-hv0] at HF1;clear HC h1 hf1;go_wp2_with fail;go_loopw [4] (fun _ wr=>∃(a:Nat) (v:Value) (M:List Nd),i<a/\a<=E.l.length/\(L++M).length<=10027010 * a/\Hid (RS E z w0 wr b tv a d v (L++M))/\Hid (Fr W wr b v0 v)/\Hid (R0=ahd M (gN E 3 a d))) (fun _ wr=>E.l.length - nxt b wr)
  case atStart=>exact ⟨a,v1,ns,hia,hal,by rw [lA];omega,H1,HF1,HV⟩
  case round =>
   obtain ⟨a,v,M,ha1,ha2,hlm,HW,HFW,HR⟩:=hrel;clear H1 HF1 HV hia hal hlenN;have HGa:=hO (g3 E a d ha2);have hz:=HE.z;have HH:Hid (∀_:Unit,Cl 139 #[.pointer (some ⟨b,0,none⟩)] wr (rB wr (.bool (bgn E a)))):=fun _=>zfx HW hz
   by_cases hkk:bgn E a=true
   ·have hlt:=zc6 hkk
    rw [hkk] at HH;have HSa:Hid (∀W,RS E z w0 W b tv (a) d v (L++M)->Cl 138 #[.pointer (some ⟨b,0,none⟩)] W fun e W'=>PoR E z w0 b tv d W v (L++M) (gN E 4 (a) d) e W'):=fun W h=>HS (a) (by omega) (by omega) W v _ h (by omega)
    cases hr:gN E 4 (a) d with
    | inr q =>
     have HV:Hid (R0=.inr q):=by
      show R0=_
      rw [HR.out,HGa.out,iP hkk,hr];rfl
     rw [hr] at HSa;clear HR HGa hr hkk;go_wp2_with fail;refine (HH ()).mono ?_;rintro e w1 ⟨rfl,hb⟩;have HX:=hO (HW.later hb);have HFX:Hid (Fr wr w1 b v v):=Fr.below b v hb;clear hb HH;go_wp2_with fail;refine (HSa _ HX.out).mono ?_;rintro e w3 ⟨rfl,hb⟩;exact zah (P:=Tryz.prog) (fn:=Tryz.f109) rfl (by subst hv0;show PoR E z w0 b tv d W _ L R0 _ _;rw [HV.out];exact ⟨rfl,hb⟩)
    | inl p =>
     obtain ⟨a2,ns2⟩:=p;have hadv:=zbM (i:=a) (by omega) (by omega) hr;have hln:=(zbU HE.rl (i:=a) (by omega) (by omega) hr).1 (by omega);have hia:=hadv.2.2 (by omega);have hal:=hadv.2.1;have HV:Hid (R0=ahd (M++(ns2++[nd0 7])) (gN E 3 a2 d)):=by
      show R0=_
      rw [HR.out,HGa.out,iP hkk,hr]
      show ahd M (ahd (ns2++[nd0 7]) (gN E 3 a2 d))=_
      rw [zcr]
     rw [hr] at HSa;have HPu:Hid (∀W v,RS E z w0 W b tv a2 d v (L++M++ns2)->Cl 110 #[.pointer (some ⟨b,0,none⟩),.slice (some ⟨W.heap.size,0,none⟩) 1 1] (W.alloc (.cells #[.int .i64 7,.int .i64 0,.string ⟨#[]⟩,.int .u64 0,.int .u64 0,.int .u64 0,.int .u64 0] 51)) fun e W'=>e=.returned (.tuple #[])/\∃v',RS E z w0 W' b tv a2 d v' (L++(M++(ns2++[nd0 7])))/\Fr W W' b v v'):=fun W v h=>by
      have:=zfF h (nd0 7) (by rw [lA];omega);rw [List.append_assoc,List.append_assoc] at this;exact this
     have hll:(L++(M++(ns2++[nd0 7]))).length<=10027010 * a2:=by
      rw [lA] at hlm;rw [lA,lA,lA,List.length_singleton];omega
     clear HR HGa hr hkk hadv hln;go_wp2_with fail;refine (HH ()).mono ?_;rintro e w1 ⟨rfl,hb⟩;have HX:=hO (HW.later hb);have HFX:Hid (Fr wr w1 b v v):=Fr.below b v hb;clear hb HH;go_wp2_with fail;refine (HSa _ HX.out).mono ?_;rintro e w3 ⟨rfl,v3,h3,hf3⟩;have H3:=hO h3;have HF3:Hid (Fr W w3 b v0 v3):=HFW.trans (HFX.trans hf3);clear h3 hf3 HX HSa HFX;go_wp2_with fail;refine (HPu _ _ H3.out).mono ?_;rintro e w4 ⟨rfl,v4,h4,hf4⟩;have H4:=hO h4;have HF4:Hid (Fr W w4 b v0 v4):=HF3.trans hf4;clear h4 hf4 H3 HF3 HPu;go_wp2_with fail;go_roundw
     case rel=>exact ⟨a2,v4,_,by omega,hal,hll,H4,HF4,HV⟩
     case measure=>rw [HW.nx,H4.nx];omega
   ·have HV:Hid (R0=.inl (a,M)):=by
     show R0=_
     rw [HR.out,HGa.out,iN hkk]
     show Sum.inl (a,M++[])=_
     rw [List.append_nil]
    rw [Bool.eq_false_iff.2 hkk] at HH;clear HR HGa hkk HS;go_wp2_with fail;refine (HH ()).mono ?_;rintro e w2 ⟨rfl,hb⟩;have HY:=hO (HW.later hb);have HFY:Hid (Fr wr w2 b v v):=Fr.below b v hb;clear hb HH HW;go_wp2_with fail;go_end0
    subst hv0;show PoR E z w0 b tv d W _ L R0 _ _
    rw [HV.out];exact ⟨rfl,_,HY.out,HFW.trans HFY.out⟩
def rW (E:PE) (i d:Nat) (c:Int):PR:=if 240<=d then .inr (i,4) else bnd (gN E 0 (i+1) (d+1)) fun a ms=>if kdA E a=c then .inl (a+1,ms) else .inr (a,60)
def rA (E:PE) (i d:Nat) (op:Int):PR:=if 240<=d then .inr (i,4) else bnd (gN E 4 (i+1) (d+1)) fun a ns=>.inl (a,ns++[nd0 op])
theorem zga {E:PE} (hE:OkE E) {z:Nat} {w0:World} {b:Nat} {tv:Value} {i d:Nat} (op:Int) (hlt:i<E.l.length) (HP0:Ct 138 E z w0 b tv (i+1) (d+1) (gN E 4 (i+1) (d+1))) (W:World) (v:Value) (L:List Nd) (h:RS E z w0 W b tv i d v L) (hL:L.length<=10027010 * i) :
  Calls Tryz.prog 154 #[.pointer (some ⟨b,0,none⟩),.int .i64 op] W fun e W'=>PoR E z w0 b tv d W v L (rA E i d op) e W':=by
 have hlen:=hE.len;have hz:=hE.z;have H:=hO h;have HE:=hO hE;unfold rA;by_cases hd:240<=d
 ·rw [iP hd]
  have HN:Hid (∀_:Unit,Cl 169 #[.pointer (some ⟨b,0,none⟩)] W fun e W'=>e=pnc (plA E z i) 4/\Below w0.heap.size w0 W'):=fun _=>zhx h hd
  clear h hd HP0 hE;go_enter Tryz.func154,Tryz.ntmps154;go_wp2_with fail;refine (HN ()).mono ?_;rintro e w1 ⟨rfl,hb⟩;exact zah rfl ⟨rfl,hb⟩
 ·rw [iN hd]
  have HN:Hid (∀_:Unit,Cl 169 #[.pointer (some ⟨b,0,none⟩)] W fun e W'=>e=.returned (.tuple #[])/\RS E z w0 W' b tv (i+1) (d+1) v L/\Fr W W' b v v):=fun _=>zhw h hlt hd hz
  have HP:Hid (∀W1,RS E z w0 W1 b tv (i+1) (d+1) v L->Cl 138 #[.pointer (some ⟨b,0,none⟩)] W1 fun e W'=>PoR E z w0 b tv (d+1) W1 v L (gN E 4 (i+1) (d+1)) e W'):=fun W1 h1=>HP0 W1 v L h1 (by omega)
  cases hr:gN E 4 (i+1) (d+1) with
  | inr q =>
   rw [hr] at HP
   show Calls Tryz.prog 154 _ _ fun e W'=>PoR E z w0 b tv d W v L (.inr q) e W'
   clear h hd HP0 hE hr;go_enter Tryz.func154,Tryz.ntmps154;go_wp2_with fail;refine (HN ()).mono ?_;rintro e w1 ⟨rfl,h1,hf1⟩;have H1:=hO h1;clear h1 hf1 HN;go_wp2_with fail;refine (HP _ H1.out).mono ?_;rintro e w2 ⟨rfl,hb⟩;exact zah rfl ⟨rfl,hb⟩
  | inl p =>
   obtain ⟨a,ns⟩:=p;rw [hr] at HP
   show Calls Tryz.prog 154 _ _ fun e W'=>PoR E z w0 b tv d W v L (.inl (a,ns++[nd0 op])) e W'
   have hadv:=zbM (i:=i+1) (by omega) (by omega) hr;have hln:=(zbU HE.rl (i:=i+1) (by omega) (by omega) hr).1 (by omega);have hal:=hadv.2.1;have HLv:Hid (∀W v,RS E z w0 W b tv a (d+1) v (L++ns)->Cl 170 #[.pointer (some ⟨b,0,none⟩)] W fun e W'=>e=.returned (.tuple #[])/\RS E z w0 W' b tv a d v (L++ns)/\Fr W W' b v v):=fun W v h=>zf3 h
   have HPu:Hid (∀W v,RS E z w0 W b tv a d v (L++ns)->Cl 110 #[.pointer (some ⟨b,0,none⟩),.slice (some ⟨W.heap.size,0,none⟩) 1 1] (W.alloc (.cells #[.int .i64 op,.int .i64 0,.string ⟨#[]⟩,.int .u64 0,.int .u64 0,.int .u64 0,.int .u64 0] 51)) fun e W'=>e=.returned (.tuple #[])/\∃v',RS E z w0 W' b tv a d v' ((L++ns)++[⟨op,0,⟨#[]⟩,0,0,0,0⟩])/\Fr W W' b v v'):=fun W v h=>zfF h ⟨op,0,⟨#[]⟩,0,0,0,0⟩ (by rw [lA];omega)
   clear h hd HP0 hE hr hadv hln;go_enter Tryz.func154,Tryz.ntmps154;go_wp2_with fail;refine (HN ()).mono ?_;rintro e w1 ⟨rfl,h1,hf1⟩;have H1:=hO h1;have HF1:Hid (Fr W w1 b v v):=hf1;clear h1 hf1 HN;go_wp2_with fail;refine (HP _ H1.out).mono ?_;rintro e w2 ⟨rfl,v2,h2,hf2⟩;have H2:=hO h2;have HF2:Hid (Fr W w2 b v v2):=HF1.trans hf2;clear h2 hf2 HP H1 HF1;go_wp2_with fail;refine (HLv _ _ H2.out).mono ?_;rintro e w3 ⟨rfl,h3,hf3⟩;have H3:=hO h3;have HF3:Hid (Fr W w3 b v v2):=HF2.trans hf3;clear h3 hf3 HLv H2 HF2;go_wp2_with fail;refine (HPu _ _ H3.out).mono ?_;rintro e w4 ⟨rfl,v4,h4,hf4⟩;rw [List.append_assoc] at h4;have H4:Hid (∃v',RS E z w0 w4 b tv a d v' (L++(ns++[nd0 op]))/\Fr W w4 b v v'):=⟨v4,h4,HF3.trans hf4⟩;clear h4 hf4 HPu H3 HF3;go_wp2_with fail;go_end0
   exact ⟨rfl,H4.out⟩
theorem zcj {E:PE} (hE:OkE E) {z:Nat} {w0:World} {b:Nat} {tv:Value} {i d:Nat} (c:Int) (hc:¬c=0) (hlt:i<E.l.length) (HX0:Ct 81 E z w0 b tv (i+1) (d+1) (gN E 0 (i+1) (d+1))) (W:World) (v:Value) (L:List Nd) (h:RS E z w0 W b tv i d v L) (hL:L.length<=10027010 * i) :
  Calls Tryz.prog 182 #[.pointer (some ⟨b,0,none⟩),.int .i64 c] W fun e W'=>PoR E z w0 b tv d W v L (rW E i d c) e W':=by
 have hlen:=hE.len;have hz:=hE.z;have H:=hO h;have HE:=hO hE;unfold rW;by_cases hd:240<=d
 ·rw [iP hd]
  have HN:Hid (∀_:Unit,Cl 169 #[.pointer (some ⟨b,0,none⟩)] W fun e W'=>e=pnc (plA E z i) 4/\Below w0.heap.size w0 W'):=fun _=>zhx h hd
  clear h hd HX0 hE;go_enter Tryz.func182,Tryz.ntmps182;go_wp2_with fail;refine (HN ()).mono ?_;rintro e w1 ⟨rfl,hb⟩;exact zah rfl ⟨rfl,hb⟩
 ·rw [iN hd]
  have HN:Hid (∀_:Unit,Cl 169 #[.pointer (some ⟨b,0,none⟩)] W fun e W'=>e=.returned (.tuple #[])/\RS E z w0 W' b tv (i+1) (d+1) v L/\Fr W W' b v v):=fun _=>zhw h hlt hd hz
  have HP:Hid (∀W1,RS E z w0 W1 b tv (i+1) (d+1) v L->Cl 81 #[.pointer (some ⟨b,0,none⟩)] W1 fun e W'=>PoR E z w0 b tv (d+1) W1 v L (gN E 0 (i+1) (d+1)) e W'):=fun W1 h1=>HX0 W1 v L h1 (by omega)
  cases hr:gN E 0 (i+1) (d+1) with
  | inr q =>
   rw [hr] at HP
   show Calls Tryz.prog 182 _ _ fun e W'=>PoR E z w0 b tv d W v L (.inr q) e W'
   clear h hd HX0 hE hr hc;go_enter Tryz.func182,Tryz.ntmps182;go_wp2_with fail;refine (HN ()).mono ?_;rintro e w1 ⟨rfl,h1,hf1⟩;have H1:=hO h1;clear h1 hf1 HN;go_wp2_with fail;refine (HP _ H1.out).mono ?_;rintro e w2 ⟨rfl,hb⟩;exact zah rfl ⟨rfl,hb⟩
  | inl p =>
   obtain ⟨a,ns⟩:=p;rw [hr] at HP;have hadv:=zbM (i:=i+1) (by omega) (by omega) hr;have hal:=hadv.2.1;by_cases hk:kdA E a=c
   ·have hal2:=za8 (E:=E) (i:=a) (by omega)
    have HPs:Hid (∀W v,RS E z w0 W b tv a (d+1) v (L++ns)->Cl 80 #[.pointer (some ⟨b,0,none⟩),.int .i64 c] W fun e W'=>e=.returned (.tuple #[])/\RS E z w0 W' b tv (a+1) (d+1) v (L++ns)/\Fr W W' b v v):=fun W v h=>by
     have:=zcv h hal2 hz;rw [hk] at this;exact this
    have HLv:Hid (∀W v,RS E z w0 W b tv (a+1) (d+1) v (L++ns)->Cl 170 #[.pointer (some ⟨b,0,none⟩)] W fun e W'=>e=.returned (.tuple #[])/\RS E z w0 W' b tv (a+1) d v (L++ns)/\Fr W W' b v v):=fun W v h=>zf3 h
    have HV:Hid ((if kdA E a=c then (.inl (a+1,ns):PR) else .inr (a,60))=.inl (a+1,ns)):=iP hk
    show Calls Tryz.prog 182 _ _ fun e W'=>PoR E z w0 b tv d W v L (if kdA E a=c then .inl (a+1,ns) else .inr (a,60)) e W'
    rw [HV.out];clear h hd HX0 hE hr hadv hk HV hc;go_enter Tryz.func182,Tryz.ntmps182;go_wp2_with fail;refine (HN ()).mono ?_;rintro e w1 ⟨rfl,h1,hf1⟩;have H1:=hO h1;have HF1:Hid (Fr W w1 b v v):=hf1;clear h1 hf1 HN;go_wp2_with fail;refine (HP _ H1.out).mono ?_;rintro e w2 ⟨rfl,v2,h2,hf2⟩;have H2:=hO h2;have HF2:Hid (Fr W w2 b v v2):=HF1.trans hf2;clear h2 hf2 HP H1 HF1;go_wp2_with fail;refine (HPs _ _ H2.out).mono ?_;rintro e w3 ⟨rfl,h3,hf3⟩;have H3:=hO h3;have HF3:Hid (Fr W w3 b v v2):=HF2.trans hf3;clear h3 hf3 HPs H2 HF2;go_wp2_with fail;refine (HLv _ _ H3.out).mono ?_;rintro e w4 ⟨rfl,h4,hf4⟩;have H4:Hid (∃v',RS E z w0 w4 b tv (a+1) d v' (L++ns)/\Fr W w4 b v v'):=⟨v2,h4,HF3.trans hf4⟩;clear h4 hf4 HLv H3 HF3;go_wp2_with fail;go_end0
    exact ⟨rfl,H4.out⟩
   ·have HPs:Hid (∀W v,RS E z w0 W b tv a (d+1) v (L++ns)->Cl 80 #[.pointer (some ⟨b,0,none⟩),.int .i64 c] W fun e W'=>e=pnc (plA E z a) 60/\Below w0.heap.size w0 W'):=fun W v h=>zjj h c hk
    have HV:Hid ((if kdA E a=c then (.inl (a+1,ns):PR) else .inr (a,60))=.inr (a,60)):=iN hk
    show Calls Tryz.prog 182 _ _ fun e W'=>PoR E z w0 b tv d W v L (if kdA E a=c then .inl (a+1,ns) else .inr (a,60)) e W'
    rw [HV.out];clear h hd HX0 hE hr hadv hk HV hc;go_enter Tryz.func182,Tryz.ntmps182;go_wp2_with fail;refine (HN ()).mono ?_;rintro e w1 ⟨rfl,h1,hf1⟩;have H1:=hO h1;clear h1 hf1 HN;go_wp2_with fail;refine (HP _ H1.out).mono ?_;rintro e w2 ⟨rfl,v2,h2,hf2⟩;have H2:=hO h2;clear h2 hf2 HP H1;go_wp2_with fail;refine (HPs _ _ H2.out).mono ?_;rintro e w3 ⟨rfl,hb⟩;exact zah rfl ⟨rfl,hb⟩
def gS (E:PE) (i d:Nat):PR:=if bgP E i=true then bnd (gN E 5 i d) fun a ns=>ahd ns (gN E 6 a d) else .inr (i,60)
theorem zjy {E:PE} (hE:OkE E) {z:Nat} {w0:World} {b:Nat} {tv:Value} {i d:Nat} (HP0:i<E.l.length->Ct 138 E z w0 b tv (i+1) (d+1) (gN E 4 (i+1) (d+1))) (HS0:Ct 155 E z w0 b tv i d (gS E i d)):Ct 138 E z w0 b tv i d (gN E 4 i d):=by
 intro W v L h hL;obtain ⟨t,ht,hk,_,_⟩:=zav E z h.hi;have HH:Hid (∀_:Unit,Cl 46 #[.pointer (some ⟨b,0,none⟩)] W (rB W (.agg #[.int .i64 t.kd,.int .i64 t.nn,.int .i64 t.fr,.int .i64 t.en,.string t.tx,.int .u64 t.s0,.int .u64 t.s1,.int .u64 t.s2,.int .u64 t.s3]))):=fun _=>zay h t ht
 have H:=hO h;have fl0:=ziI;have HG:=hO (g4 E i d h.hi);by_cases c8:kdA E i=8
 ·have hlt:=za8 (E:=E) (i:=i) (by omega)
  have HA:Hid (∀W1,RS E z w0 W1 b tv i d v L->Cl 154 #[.pointer (some ⟨b,0,none⟩),.int .i64 12] W1 fun e W'=>PoR E z w0 b tv d W1 v L (rA E i d 12) e W'):=fun W1 h1=>zga hE 12 hlt (HP0 hlt) W1 v L h1 hL
  have HV:Hid (gN E 4 i d=rA E i d 12):=by
   show gN E 4 i d=_
   rw [HG.out,iP (by unfold bgn;rw [c8];rfl),iP (.inl c8),show (if kdA E i=8 then (12:Int) else 13)=12 from iP c8];rfl
  rw [HV.out];generalize rA E i d 12=r at *;rw [hk.trans c8] at HH;clear h ht hk c8 HG HV HP0 HS0 hE;go_enter Tryz.func138,Tryz.ntmps138;go_wp2_with fail;refine (HH ()).mono ?_;rintro e w1 ⟨rfl,hb⟩;have H1:=hO (H.later hb);have HF1:Hid (Fr W w1 b v v):=Fr.below b v hb;clear hb HH H;go_wp2_with fail;refine (HA _ H1.out).mono ?_;rintro e w2 hp
  cases r with
  | inr q =>
   obtain ⟨rfl,hb⟩:=hp;exact zah rfl ⟨rfl,hb⟩
  | inl p =>
   obtain ⟨rfl,v2,h2,hf2⟩:=hp;have H2:Hid (∃v',RS E z w0 w2 b tv p.1 d v' (L++p.2)/\Fr W w2 b v v'):=⟨v2,h2,HF1.trans hf2⟩;clear h2 hf2;go_wp2_with fail;go_end0
   exact ⟨rfl,H2.out⟩
 by_cases c9:kdA E i=9
 ·have hlt:=za8 (E:=E) (i:=i) (by omega)
  have HA:Hid (∀W1,RS E z w0 W1 b tv i d v L->Cl 154 #[.pointer (some ⟨b,0,none⟩),.int .i64 13] W1 fun e W'=>PoR E z w0 b tv d W1 v L (rA E i d 13) e W'):=fun W1 h1=>zga hE 13 hlt (HP0 hlt) W1 v L h1 hL
  have HV:Hid (gN E 4 i d=rA E i d 13):=by
   show gN E 4 i d=_
   rw [HG.out,iP (by unfold bgn;rw [c9];rfl),iP (.inr c9),show (if kdA E i=8 then (12:Int) else 13)=13 from iN c8];rfl
  rw [HV.out];generalize rA E i d 13=r at *;rw [hk.trans c9] at HH;clear h ht hk c9 c8 HG HV HP0 HS0 hE;go_enter Tryz.func138,Tryz.ntmps138;go_wp2_with fail;refine (HH ()).mono ?_;rintro e w1 ⟨rfl,hb⟩;have H1:=hO (H.later hb);have HF1:Hid (Fr W w1 b v v):=Fr.below b v hb;clear hb HH H;go_wp2_with fail;refine (HA _ H1.out).mono ?_;rintro e w2 hp
  cases r with
  | inr q =>
   obtain ⟨rfl,hb⟩:=hp;exact zah rfl ⟨rfl,hb⟩
  | inl p =>
   obtain ⟨rfl,v2,h2,hf2⟩:=hp;have H2:Hid (∃v',RS E z w0 w2 b tv p.1 d v' (L++p.2)/\Fr W w2 b v v'):=⟨v2,h2,HF1.trans hf2⟩;clear h2 hf2;go_wp2_with fail;go_end0
   exact ⟨rfl,H2.out⟩
 have HS:Hid (∀W1,RS E z w0 W1 b tv i d v L->Cl 155 #[.pointer (some ⟨b,0,none⟩)] W1 fun e W'=>PoR E z w0 b tv d W1 v L (gS E i d) e W'):=fun W1 h1=>HS0 W1 v L h1 hL
 have HV:Hid (gN E 4 i d=gS E i d):=by
  show gN E 4 i d=_
  have hb:bgn E i=bgP E i:=by rw [zhy,bF c8,bF c9];rfl
  rw [HG.out,hb,iN (by omega:¬(kdA E i=8∨kdA E i=9))];rfl
 rw [HV.out];have v8:(t.kd==8)=false:=by rw [hk];exact bF c8
 have v9:(t.kd==9)=false:=by rw [hk];exact bF c9
 generalize gS E i d=r at *;clear h ht hk c8 c9 HG HV HP0 HS0 hE;go_enter Tryz.func138,Tryz.ntmps138;go_wp2_with fail;refine (HH ()).mono ?_;rintro e w1 ⟨rfl,hb⟩;have H1:=hO (H.later hb);have HF1:Hid (Fr W w1 b v v):=Fr.below b v hb;clear hb HH H;go_wp2_with fail;refine (HS _ H1.out).mono ?_;rintro e w2 hp
 cases r with
 | inr q =>
  obtain ⟨rfl,hb⟩:=hp;exact zah rfl ⟨rfl,hb⟩
 | inl p =>
  obtain ⟨rfl,v2,h2,hf2⟩:=hp;have H2:Hid (∃v',RS E z w0 w2 b tv p.1 d v' (L++p.2)/\Fr W w2 b v v'):=⟨v2,h2,HF1.trans hf2⟩;clear h2 hf2;go_wp2_with fail;go_end0
  exact ⟨rfl,H2.out⟩
end Go.Proofs.YtkihfkcmcdiajaaGreatDoor.N
