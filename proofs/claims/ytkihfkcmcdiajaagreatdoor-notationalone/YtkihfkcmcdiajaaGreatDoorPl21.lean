/- NotationAlone holds of every text: Pattern answers as the document's own reader does, the pattern or the fault; the laid tables runes.blocks and token.signs are tied to the program's text. -/
import Derived.Test.YtkihfkcmcdiajaaGreatDoorPl20
set_option maxRecDepth 100000
set_option maxHeartbeats 8000000
namespace Go.Proofs.YtkihfkcmcdiajaaGreatDoor
open Go.RowKit
theorem zo5 (s:ByteArray) (b:Nat) (l:List UInt8) (h:b+l.length<=s.size):pfx s b l=((s.extract b (b+l.length)).data.toList==l):=by
 induction l generalizing b with
 | nil =>
  have:(s.extract b (b+([]:List UInt8).length)).data.toList=[]:=by
   have h1:(s.extract b (b+([]:List UInt8).length)).size=0:=by rw [ByteArray.size_extract];simp;omega
   exact List.eq_nil_of_length_eq_zero h1
  rw [this];rfl
 | cons c l ih =>
  rw [List.length_cons] at h;have hb:b<s.size:=by omega
  have e:(s.extract b (b+(c::l).length)).data.toList=s[b]::(s.extract (b+1) (b+1+l.length)).data.toList:=by
   have h1:s.data.size=s.size:=rfl;have hd:b<s.data.size:=hb;rw [ByteArray.data_extract,ByteArray.data_extract,Array.toList_extract,Array.toList_extract,List.extract_eq_take_drop,List.extract_eq_take_drop,List.length_cons,
    List.drop_eq_getElem_cons (by rw [Array.length_toList];omega),show b+(l.length+1) - b=l.length+1 from by omega,show b+1+l.length - (b+1)=l.length from by omega,List.take_succ_cons]
   rfl
  rw [pfx,e,ih (b+1) (by omega),zal hb]
  show _=(s[b]==c&&_)
  congr 1
  by_cases q:s[b]=c
  ·rw [q];simp
  ·have h2:¬(s[b].toNat:Int)=(c.toNat:Int):=fun e=>q (UInt8.toNat_inj.1 (by omega))
   rw [bF q,bF h2]
theorem zmu (s:ByteArray) (b:Nat):∀(l:List UInt8),b<=s.size->s.size<b+l.length->pfx s b l=false:=by
 intro l hb h
 cases hp:pfx s b l with
 | false=>rfl
 | true =>
  exfalso
  have key:∀(l:List UInt8) (i:Nat),i<=s.size->pfx s i l=true->i+l.length<=s.size:=by
   intro l
   induction l with
   | nil=>intro i h _;exact h
   | cons c l ih =>
    intro i h hp;rw [pfx,Bool.and_eq_true] at hp;have h1:i<s.size:=zaz (by rw [beq_iff_eq.1 hp.1];omega);have:=ih (i+1) (by omega) hp.2;rw [List.length_cons];omega
  have:=key l b hb hp;omega
structure AtZ (w wr:World):Prop where
 b:Below w.heap.size w wr
 x:TX wr w.heap.size tk0
theorem AtZ.step {w wr W:World} (h:AtZ w wr) (hb:Below wr.heap.size wr W):AtZ w W:=⟨h.b.trans (hb.mono h.b.size),h.x.below hb⟩
theorem zmv (s:ByteArray) (b:Nat) (hs:s.size<=140737488355000) (hb:b<s.size) (w:World):Calls Tryz.prog 67 #[.string s,.int .i64 b] w (rB w (zcr (sgR s b))):=by
 have HWr:Hid (∀i e w,Cl 58 #[.int .i64 i,.int .i64 e] w fun e' w'=>e'=.returned (.tuple #[tkG tk0,.int .i64 i,.int .i64 e])/\Below w.heap.size w w'):=fun i e w=>zbO i e w
 have HSi:Hid (∀k w,1<=k->k<=30->Cl 72 #[.int .i64 ((k:Nat):Int)] w (rB w (.string ⟨(sgn k).toArray⟩))):=fun k w h1 h2=>zow k h1 h2 w
 have H0:Hid (AtZ w (w.alloc (tkO tk0))):=⟨zaa w _,TX.new w tk0⟩;have HR:=(show Hid (sgR s b=match sgL s b 2 30 1 with
  | some k=>.inl (zo3 b 2 k)
  | none=>match sgL s b 1 30 1 with
   | some k=>.inl (zo3 b 1 k)
   | none=>.inr (b,50)) from rfl)
 go_enter Tryz.func67,Tryz.ntmps67;go_wp2_with fail;go_loopw [7] (fun t wr=>∃n:Nat,n<=2/\t=.int .i64 n/\Hid (AtZ w wr)/\Hid ((n<=1->sgL s b 2 30 1=none)/\(n=0->sgL s b 1 30 1=none))) (fun t _=>(intOf t).toNat)
 case atStart=>exact ⟨2,by omega,rfl,H0,⟨fun q=>by omega,fun q=>by omega⟩⟩
 case round =>
  obtain ⟨n,hn,rfl,HW,HP⟩:=hrel;clear H0;by_cases hn0:n=0
  ·subst hn0
   have HE:Hid (sgR s b=.inr (b,50)):=by show sgR s b=_;rw [HR.out,HP.1 (by omega),HP.2 rfl]
   clear HSi HR HP;go_wp2_with fail;refine (HWr _ _ _).mono ?_;rintro e w3 ⟨rfl,b3⟩;have HX3:Hid (AtZ w w3):=HW.step b3;clear b3 HW HWr;obtain ⟨c0,c1,c2,c3,c4,c5,c6,c7,c8⟩:=HX3.x.cells;obtain ⟨f0,f1',f2',f3,f4,f5,f6,f7,f8⟩:=HX3.x.fz;go_wp2_with fail;exact zah rfl rfl rfl rfl rfl (zar HX3.x tk0) ⟨by rw [HE.out];rfl,zac HX3.b (nL _) tk0⟩
  ·have t1:(1:Int)<=(n:Int):=by omega
   go_wp2_with fail;obtain ⟨wO,rfl⟩:∃W,W=wr:=⟨wr,rfl⟩;go_loopw [8] (fun t wr=>∃k:Nat,1<=k/\k<=31/\t=.int .i64 k/\Hid (AtZ w wr)/\Hid (sgL s b n (31 - k) k=sgL s b n 30 1)) (fun t _=>31 - (intOf t).toNat)
   case atStart=>exact ⟨1,by omega,by omega,by go_num,HW,rfl⟩
   case round =>
    obtain ⟨k,hk1,hk2,rfl,HV,HK⟩:=hrel;clear HW;by_cases hk:k<=30
    ·have z1:(k:Int)<=30:=by omega
     have HSk:=(show Hid _ from fun w=>HSi k w hk1 hk);have HU:Hid (sgL s b n 30 1=if sgF s b n k=true then some k else sgL s b n (31 - (k+1)) (k+1)):=by
      show sgL s b n 30 1=_
      rw [<-HK.out,show 31 - k=(31 - (k+1))+1 from by omega,sgL]
     have hsz:(⟨(sgn k).toArray⟩:ByteArray).size=(sgn k).length:=by show (sgn k).toArray.size=_;simp
     have HF1:Hid (¬(sgn k).length=n->sgF s b n k=false):=fun q=>by unfold sgF;rw [dF q];rfl
     have HF2:Hid ((sgn k).length=n->¬b+n<=s.size->sgF s b n k=false):=fun q q2=>by unfold sgF;rw [zmu s b _ (by omega) (by omega),Bool.and_false]
     have HF3:Hid ((sgn k).length=n->b+n<=s.size->sgF s b n k=((s.extract b (b+n)).toList==sgn k)):=fun q q2=>by unfold sgF;rw [decide_eq_true q,Bool.true_and,zo5 s b _ (by omega),q,ByteArray.toList_eq]
     by_cases hl:(sgn k).length=n
     ·by_cases hin:b+n<=s.size
      ·have hf:=HF3 hl hin
       have z2:(b:Int)+(n:Int)<=(s.size:Int):=by omega
       have z3:(0:Int)<=(b:Int):=by omega
       have z4:(b:Int)<=(b:Int)+(n:Int):=by omega
       have v1:(((⟨(sgn k).toArray⟩:ByteArray).size:Int)==(n:Int))=true:=by rw [hsz,hl];exact beq_self_eq_true _
       cases hq:((s.extract b (b+n)).toList==sgn k) with
       | true =>
        rw [hq] at hf;have HE:Hid (sgR s b=.inl (zo3 b n k)):=by
         show sgR s b=_
         have hL:sgL s b n 30 1=some k:=by rw [HU.out,iP hf]
         by_cases h2:n=2
         ·subst h2;rw [HR.out,hL]
         ·obtain rfl:n=1:=by omega
          rw [HR.out,HP.1 (by omega),hL]
        clear HF1 HF2 HF3 HU HK HSi HWr HR HP hf hin hsz;go_wp2_with fail;refine (HSk _).mono ?_;rintro e w3 ⟨rfl,b3⟩;have HV3:Hid (AtZ w w3):=HV.step b3;clear b3 HV HSk;obtain ⟨c0,c1,c2,c3,c4,c5,c6,c7,c8⟩:=HV3.x.cells;obtain ⟨f0,f1',f2',f3,f4,f5,f6,f7,f8⟩:=HV3.x.fz;go_wp2_with fail;exact zah rfl rfl rfl rfl rfl (zar HV3.x (zo3 b n k)) ⟨by rw [HE.out];rfl,zac HV3.b (nL _) (zo3 b n k)⟩
       | false =>
        rw [hq] at hf;have HK2:Hid (sgL s b n (31 - (k+1)) (k+1)=sgL s b n 30 1):=by show _=sgL s b n 30 1;rw [HU.out,iN (by rw [hf];decide)]
        clear HF1 HF2 HF3 HU HK HSi HWr HR HP hf hin hsz;go_wp2_with fail;refine (HSk _).mono ?_;rintro e w3 ⟨rfl,b3⟩;have HV3:Hid (AtZ w w3):=HV.step b3;clear b3 HV HSk;go_wp2_with fail;go_roundw
        case rel=>exact ⟨k+1,by omega,by omega,by go_num,HV3,HK2⟩
        case measure=>simp [intOf];omega
      ·have hf:=HF2 hl hin
       have z2:¬(b:Int)+(n:Int)<=(s.size:Int):=by omega
       have v1:(((⟨(sgn k).toArray⟩:ByteArray).size:Int)==(n:Int))=true:=by rw [hsz,hl];exact beq_self_eq_true _
       have HK2:Hid (sgL s b n (31 - (k+1)) (k+1)=sgL s b n 30 1):=by show _=sgL s b n 30 1;rw [HU.out,iN (by rw [hf];decide)]
       clear HF1 HF2 HF3 HU HK HSi HWr HR HP hf hin hsz;go_wp2_with fail;refine (HSk _).mono ?_;rintro e w3 ⟨rfl,b3⟩;have HV3:Hid (AtZ w w3):=HV.step b3;clear b3 HV HSk;go_wp2_with fail;go_roundw
       case rel=>exact ⟨k+1,by omega,by omega,by go_num,HV3,HK2⟩
       case measure=>simp [intOf];omega
     ·have hf:=HF1 hl
      have v1:(((⟨(sgn k).toArray⟩:ByteArray).size:Int)==(n:Int))=false:=by rw [hsz,beq_eq_false_iff_ne];omega
      have HK2:Hid (sgL s b n (31 - (k+1)) (k+1)=sgL s b n 30 1):=by show _=sgL s b n 30 1;rw [HU.out,iN (by rw [hf];decide)]
      clear HF1 HF2 HF3 HU HK HSi HWr HR HP hf hsz hl;generalize ByteArray.mk (sgn k).toArray=tx at *;go_wp2_with fail;refine (HSk _).mono ?_;rintro e w3 ⟨rfl,b3⟩;have HV3:Hid (AtZ w w3):=HV.step b3;clear b3 HV HSk;go_wp2_with fail;go_roundw
      case rel=>exact ⟨k+1,by omega,by omega,by go_num,HV3,HK2⟩
      case measure=>simp [intOf];omega
    ·obtain rfl:k=31:=by omega
     have z1:¬((31:Nat):Int)<=30:=by omega
     have HK2:Hid (sgL s b n 30 1=none):=HK.symm.trans rfl;have HP2:=(show Hid ((n - 1<=1->sgL s b 2 30 1=none)/\(n - 1=0->sgL s b 1 30 1=none)) from by
      by_cases h2:n=2
      ·subst h2;exact ⟨fun _=>HK2.out,fun q=>by omega⟩
      ·obtain rfl:n=1:=by omega
       exact ⟨fun _=>HP.1 (by omega),fun _=>HK2.out⟩)
     clear HK HK2 HSi HWr HR HP;obtain ⟨n1,hn1⟩:∃m,m=n - 1:=⟨_,rfl⟩;rw [<-hn1] at HP2;have u1:IntKind.i64.wrap ((n:Int) - 1)=(n1:Int):=by rw [wI];omega
     have hn2:n1<n:=by omega
     clear hn1;go_wp2_with fail;go_roundw
     case rel=>exact ⟨n1,by omega,rfl,HV,HP2⟩
     case measure=>simp [intOf];omega
theorem hx7_sp (s:ByteArray):∀(k i:Nat),hx7 s i k=if spN hxB s i - i<=k then spN hxB s i else i+k:=by
 intro k
 induction k with
 | zero =>
  intro i;have:=zbc hxB s (by decide) i;rw [hx7]
  split <;> omega
 | succ k ih =>
  intro i;rw [hx7];by_cases h:0<=zaG (chr s i)
  ·rw [iP h,ih (i+1)]
   have h1:=(za5 (P:=hxB) (s:=s) (i:=i) (by decide) (hxB_hexV.2 h)).2;have:=zbc hxB s (by decide) (i+1);rw [h1];by_cases q:spN hxB s (i+1) - (i+1)<=k
   ·rw [iP q,iP (by omega)]
   ·rw [iN q,iN (by omega)];omega
  ·have h1:spN hxB s i=i:=zbm (by
    cases hh:hxB (chr s i) with
    | false=>rfl
    | true=>exact absurd (hxB_hexV.1 hh) h)
   rw [iN h,h1,iP (by omega)]
theorem zkR (s:ByteArray) (i:Nat):zbV s i=if spN hxB s i - i<=7 then spN hxB s i else i+7:=hx7_sp s 7 i
theorem pt_ok {s:ByteArray} {a:Nat} (h:(ptP s a).2.2=true):zbV s a=(ptP s a).2.1/\zbV s a≠a/\¬a+6<zbV s a/\zaD s a 16 (zbV s a - a)=(ptP s a).1/\(ptP s a).1<=1114111:=by
 have hbd:=zc5 h;have hge:=zbc hxB s (by decide) a;rw [zkR];unfold ptP at h hbd ⊢
 split at h
 ·cases h
 ·next q =>
  rw [iN q] at hbd;rw [iN q,iP (by omega)];exact ⟨rfl,by omega,by omega,rfl,hbd⟩
theorem pt_no {s:ByteArray} {a:Nat} (h:(ptP s a).2.2=false):zbV s a=a∨a+6<zbV s a∨1114111<zaD s a 16 (zbV s a - a):=by
 have hge:=zbc hxB s (by decide) a;rw [zkR];unfold ptP at h
 split at h
 ·next q =>
  rcases q with q | q
  ·left;rw [q];rw [iP (by omega)]
  ·right;left
   split <;> omega
 ·next q =>
  right;right
  rw [iP (by omega)];have:=of_decide_eq_false h;omega
theorem zmw (s:ByteArray) (b:Nat):zb6 s b=zbZ s b:=by
 unfold zb6 zbZ;dsimp only
 cases h1:(ptP s (b+3)).2.2 with
 | false =>
  rw [iP rfl]
  rcases pt_no h1 with q | q | q
  ·rw [iP (.inl q)]
  ·rw [iP (.inr (.inl q))]
  ·by_cases c:zbV s (b+3)=b+3∨b+3+6<zbV s (b+3)∨(if chr s (zbV s (b+3))=45 then zbV s (zbV s (b+3)+1) else zbV s (b+3))=(if chr s (zbV s (b+3))=45 then zbV s (b+3)+1 else b+3)∨(if chr s (zbV s (b+3))=45 then zbV s (b+3)+1 else b+3)+6<(if chr s (zbV s (b+3))=45 then zbV s (zbV s (b+3)+1) else zbV s (b+3))∨chr s (if chr s (zbV s (b+3))=45 then zbV s (zbV s (b+3)+1) else zbV s (b+3))≠125
   ·rw [iP c]
   ·rw [iN c,iP (by omega)]
 | true =>
  obtain ⟨a1,a2,a3,a4,a5⟩:=pt_ok h1;rw [iN (by decide),a1,<-a4,a1];rw [a1] at a2 a3 a4;by_cases h45:chr s (ptP s (b+3)).2.1=45
  ·rw [iP h45,iP h45,iP h45]
   cases h2:(ptP s ((ptP s (b+3)).2.1+1)).2.2 with
   | false =>
    rw [iP (.inl rfl)]
    rcases pt_no h2 with q | q | q
    ·rw [iP (.inr (.inr (.inl q)))]
    ·rw [iP (.inr (.inr (.inr (.inl q))))]
    ·split
     ·rfl
     ·rw [iP (.inr q)]
   | true =>
    obtain ⟨b1,b2,b3,b4,b5⟩:=pt_ok h2;rw [b1];rw [b1] at b2 b3 b4;rw [b4];by_cases hlt:(ptP s ((ptP s (b+3)).2.1+1)).1<zaD s (b+3) 16 ((ptP s (b+3)).2.1 - (b+3))
    ·rw [iP (.inr hlt)]
     split
     ·rfl
     ·rw [iP (.inl hlt)]
    ·rw [iN (by simp;omega)]
     by_cases h125:chr s (ptP s ((ptP s (b+3)).2.1+1)).2.1=125
     ·rw [iP h125,iN (by omega),iN (by omega)];rfl
     ·rw [iN h125,iP (by omega)]
  ·rw [iN h45,iN h45,iN h45]
   by_cases h125:chr s (ptP s (b+3)).2.1=125
   ·rw [iP h125,iN (by omega),iN (by omega)];rfl
   ·rw [iN h125,iP (by omega)]
theorem zkS (c0 c1:Int):(((sgC c0 c1).1=13∨(sgC c0 c1).1=14∨(sgC c0 c1).1=15)->c0=94)/\((sgC c0 c1).1=21->c0=123/\c1=58):=by
 unfold sgC;by_cases h37:c0=37
 ·subst h37
  by_cases a101:c1=101 <;> by_cases a102:c1=102 <;> simp_all
 by_cases h94:c0=94
 ·subst h94
  by_cases a43:c1=43 <;> by_cases a45:c1=45 <;> simp_all
 by_cases h60:c0=60
 ·subst h60
  by_cases a45:c1=45 <;> simp_all
 by_cases h45:c0=45
 ·subst h45
  by_cases a62:c1=62 <;> simp_all
 by_cases h47:c0=47
 ·subst h47
  simp
 by_cases h38:c0=38
 ·subst h38
  simp
 by_cases h33:c0=33
 ·subst h33
  simp
 by_cases h63:c0=63
 ·subst h63
  simp
 by_cases h42:c0=42
 ·subst h42
  simp
 by_cases h43:c0=43
 ·subst h43
  simp
 by_cases h40:c0=40
 ·subst h40
  simp
 by_cases h41:c0=41
 ·subst h41
  simp
 by_cases h46:c0=46
 ·subst h46
  simp
 by_cases h123:c0=123
 ·subst h123
  by_cases a58:c1=58 <;> by_cases a124:c1=124 <;> by_cases a126:c1=126 <;> simp_all
 by_cases h58:c0=58
 ·subst h58
  by_cases a125:c1=125 <;> simp_all
 by_cases h124:c0=124
 ·subst h124
  by_cases a125:c1=125 <;> simp_all
 by_cases h126:c0=126
 ·subst h126
  by_cases a125:c1=125 <;> simp_all
 by_cases h125:c0=125
 ·subst h125
  simp
 simp [*]
def lgG (s:ByteArray) (b:Nat):Prop:=chr s b=123/\chr s (b+1)=58/\hdB (chr s (b+2))=true/\32<spN nmB s (b+2) - (b+2)/\chr s (spN nmB s (b+2))≠58
theorem zmx (s:ByteArray) (b:Nat) (h:chr s b=94):zbS s b=zd4 s b:=by
 have e:zaw s b=if chr s (b+1)=43 then (14,[94,43]) else if chr s (b+1)=45 then (15,[94,45]) else (13,[94]):=by
  rw [zgg,h];unfold sgC;rw [iN (by decide),iP rfl]
 unfold zbS zd4;rw [e];dsimp only;by_cases h43:chr s (b+1)=43
 ·rw [iP h43];simp only [h43];rfl
 ·by_cases h45:chr s (b+1)=45
  ·rw [iN h43,iP h45];simp only [h45];rfl
  ·have ho:¬(chr s (b+1)=43∨chr s (b+1)=45):=by omega
   rw [iN h43,iN h45,iN h43,iN h45,iN ho];rfl
theorem zmy (s:ByteArray) (b:Nat) (h:chr s b=123) (h2:chr s (b+1)=58):(lgG s b->zbS s b=.inr (b+2,2)/\zeY s b=.inl (nlT b (b+2)))/\(¬lgG s b->zbS s b=zeY s b):=by
 have e:zaw s b=(21,[123,58]):=by
  rw [zgg,h,h2];rfl
 have es:zbS s b=zcD s b (b+2):=by
  unfold zbS;rw [e];rfl
 rw [es];unfold zcD zeY lgG;have e2:spN nmB s (b+2) - b - 2=spN nmB s (b+2) - (b+2):=by omega
 rw [e2];refine ⟨fun ⟨_,_,q3,q4,q5⟩=>?_,fun hn=>?_⟩
 ·have hA:¬(hdB (chr s (b+2))=true/\chr s (spN nmB s (b+2))=58):=fun q=>q5 q.2
  rw [iP q3,iP q4,iN hA];exact ⟨rfl,rfl⟩
 ·by_cases q1:hdB (chr s (b+2))=true
  ·rw [iP q1]
   by_cases q3:chr s (spN nmB s (b+2))=58
   ·have hA:hdB (chr s (b+2))=true/\chr s (spN nmB s (b+2))=58:=⟨q1,q3⟩
    rw [iP hA,iP q3];by_cases q2:32<spN nmB s (b+2) - (b+2)
    ·rw [iP q2,iP q2]
    ·rw [iN q2,iN q2];rfl
   ·have hA:¬(hdB (chr s (b+2))=true/\chr s (spN nmB s (b+2))=58):=fun q=>q3 q.2
    have q2:¬32<spN nmB s (b+2) - (b+2):=fun q=>hn ⟨h,h2,q1,q,q3⟩
    rw [iN hA,iN q2,iN q3];rfl
  ·have hA:¬(hdB (chr s (b+2))=true/\chr s (spN nmB s (b+2))=58):=fun q=>q1 q.1
   rw [iN q1,iN hA];rfl
theorem zmz (s:ByteArray) (b:Nat) (h:chr s b=37):zcY s b=zdA s b:=by
 have e:zaw s b=if chr s (b+1)=101 then (29,[37,101]) else if chr s (b+1)=102 then (30,[37,102]) else (0,[]):=by
  rw [zgg,h];unfold sgC;rw [iP rfl]
 have ep:pfx s b [37,117,123]=(chr s (b+1)==117&&chr s (b+2)==123):=by
  show (chr s b==37&&(chr s (b+1)==117&&(chr s (b+1+1)==123&&true)))=_
  rw [h,Bool.and_true];rfl
 unfold zcY zdA;rw [ep];by_cases hu:chr s (b+1)=117/\chr s (b+2)=123
 ·rw [iP hu,hu.1,hu.2,iP (by decide)];exact zmw s b
 ·have hu2:¬(chr s (b+1)==117&&chr s (b+2)==123)=true:=by simpa using hu
  rw [iN hu,iN hu2,e];by_cases h1:chr s (b+1)=101
  ·rw [iP h1,iP h1,iP (by simp)]
   unfold zbS;rw [e,iP h1];rfl
  ·rw [iN h1,iN h1]
   by_cases h2:chr s (b+1)=102
   ·rw [iP h2,iP h2,iP (by simp)]
    unfold zbS;rw [e,iN h1,iP h2];rfl
   ·rw [iN h2,iN h2,iN (by simp)]
    by_cases hs:b+1<s.size
    ·have hp:0<=chr s (b+1):=by rw [zal hs];omega
     by_cases hc:(cls (chr s (b+1)).toNat).2=0
     ·rw [iP ⟨hs,hc⟩,iP ⟨hp,hc⟩];rfl
     ·rw [iN (fun q=>hc q.2),iN (fun q=>hc q.2)]
    ·have hp:¬0<=chr s (b+1):=by rw [zau hs];omega
     rw [iN (fun q=>hs q.1),iN (fun q=>hp q.1)]
theorem zcZ (s:ByteArray) (b:Nat):(lgG s b->zaN s b=.inr (b+2,2)/\zbF (sgR s) s b=.inl (nlT b (b+2)))/\(¬lgG s b->zaN s b=zbF (sgR s) s b):=by
 unfold zaN zbF;by_cases h1:hdB (chr s b)=true
 ·have hn:¬lgG s b:=fun q=>by rw [q.1] at h1;exact absurd h1 (by decide)
  refine ⟨fun q=>absurd q hn,fun _=>?_⟩;rw [iP h1,iP h1];rfl
 rw [iN h1,iN h1];by_cases h2:dgB (chr s b)=true
 ·have hn:¬lgG s b:=fun q=>by rw [q.1] at h2;exact absurd h2 (by decide)
  refine ⟨fun q=>absurd q hn,fun _=>?_⟩;rw [iP h2,iP h2];rfl
 rw [iN h2,iN h2];by_cases h3:chr s b=39∨chr s b=34
 ·have hn:¬lgG s b:=fun q=>by have:=q.1;omega
  refine ⟨fun q=>absurd q hn,fun _=>?_⟩;rw [iP h3,iP h3]
 rw [iN h3,iN h3];by_cases h4:chr s b=91
 ·have hn:¬lgG s b:=fun q=>by have:=q.1;omega
  refine ⟨fun q=>absurd q hn,fun _=>?_⟩;rw [iP h4,iP h4]
 rw [iN h4,iN h4];by_cases h5:chr s b=37
 ·have hn:¬lgG s b:=fun q=>by have:=q.1;omega
  refine ⟨fun q=>absurd q hn,fun _=>?_⟩;rw [iP h5,iP h5];exact zmz s b h5
 rw [iN h5,iN h5];by_cases h6:chr s b=94
 ·have hn:¬lgG s b:=fun q=>by have:=q.1;omega
  refine ⟨fun q=>absurd q hn,fun _=>?_⟩;rw [iP h6];exact zmx s b h6
 rw [iN h6];by_cases h7:chr s b=123/\chr s (b+1)=58
 ·rw [iP h7];exact zmy s b h7.1 h7.2
 ·have hn:¬lgG s b:=fun q=>h7 ⟨q.1,q.2.1⟩
  refine ⟨fun q=>absurd q hn,fun _=>?_⟩;rw [iN h7,sgR_C,sgRC_C _ _ h5 h6 h7];obtain ⟨k1,k2⟩:=zkS (chr s b) (chr s (b+1));unfold zbS;rw [zgg];dsimp only;rw [iN (fun q=>h6 (k1 q)),iN (fun q=>h7 (k2 q))]
theorem lg_in {s:ByteArray} {b:Nat} (h:lgG s b):b+2<s.size:=by
 have h3:=h.2.2.1;by_cases q:b+2<s.size
 ·exact q
 ·rw [zau q] at h3;exact absurd h3 (by decide)
theorem zkT (s:ByteArray) (b:Nat) (t:Tk) (hb:b<s.size) (h:zbF (sgR s) s b=.inl t):∃e:Nat,t.en=e/\b<e/\e<=s.size:=by
 by_cases q:lgG s b
 ·have h1:=lg_in q
  rw [((zcZ s b).1 q).2] at h
  cases h
  exact ⟨b+2,rfl,by omega,by omega⟩
 ·rw [<-(zcZ s b).2 q] at h
  exact zg1 s b t hb h
theorem zo6 (s:ByteArray) (b:Nat) (p:Nat×Int) (h:zbF (sgR s) s b=.inr p):p.2≠0:=by
 by_cases q:lgG s b
 ·rw [((zcZ s b).1 q).2] at h;cases h
 ·rw [<-(zcZ s b).2 q] at h;exact zg0 s b p h
theorem zix (s:ByteArray):∀(f:Nat) (out:List Tk) (i:Nat),s.size<f+i->zbT (zaN s) s f out i=zbT (zbF (sgR s) s) s f out i:=by
 intro f
 induction f with
 | zero=>intro out i h;rfl
 | succ f ih =>
  intro out i h;rw [zbT,zbT];by_cases hi:i<s.size
  ·rw [iP hi,iP hi]
   by_cases q:lgG s i
   ·have h1:=lg_in q
    obtain ⟨e1,e2⟩:=(zcZ s i).1 q;rw [e1,e2];dsimp only;have hd:=q.2.2.1;have hg:zbD s (i+2)=i+2:=by
     rw [zdv,iP h1];have hr:65<=chr s (i+2):=by
      unfold hdB at hd;simp at hd
      omega
     rw [iN (by omega),iN (by omega)]
    obtain ⟨f,rfl⟩:∃g,f=g+1:=⟨f - 1,by omega⟩
    show _=zbT (zbF (sgR s) s) s (f+1) (out++[nlT i (i+2)]) (zbD s (i+2))
    rw [hg,zbT,iP h1];have ho:zbF (sgR s) s (i+2)=.inr (i+2,2):=by
     unfold zbF;rw [iP hd,iP (by have:=q.2.2.2.1;omega)]
    rw [ho]
   ·rw [(zcZ s i).2 q]
    cases ho:zbF (sgR s) s i with
    | inr p=>rfl
    | inl t =>
     obtain ⟨e,e1,e2,e3⟩:=zkT s i t hi ho;have hge:=zg3 s e e3;dsimp only;exact ih _ _ (by rw [e1,Int.toNat_natCast];omega)
  ·rw [iN hi,iN hi]
theorem zmA (s:ByteArray):zbi (zaN s) s=zbi (zbF (sgR s) s) s:=by
 unfold zbi
 split
 ·rfl
 ·exact zix s _ _ _ (by omega)
theorem zcb (s:ByteArray) (hs:s.size<=140737488355000) (w:World):Calls Tryz.prog 17 #[.string s] w fun e w'=>LxV w w' (zbi (zaN s) s) e/\Below w.heap.size w w':=by
 rw [zmA];exact lex_of (zbF (sgR s) s) s hs (fun b hb _ w=>one_of (sgR s) s b hs hb (fun w=>zmv s b hs hb w) w) (fun b t hb h=>zkT s b t hb h) (fun b q h=>zo6 s b q h) w
end Go.Proofs.YtkihfkcmcdiajaaGreatDoor
namespace Go.Proofs.YtkihfkcmcdiajaaGreatDoor.N
open Go.RowKit
def PgV (w':World) (r:Sum (List (ByteArray×List Nd)) (Int×Int)) (e:Ending):Prop:=match r with
 | .inr p=>e=.returned (.tuple #[.agg #[.slice none 0 0],.agg #[.int .i64 p.1,.int .i64 p.2]])
 | .inl gs=>∃u,e=.returned (.tuple #[.agg #[u],.agg #[.int .i64 0,.int .i64 0]])/\GrR w' u gs
theorem zgo {fn:Func} {R:Ending->World->Prop} {act:Act} {W:World} {j k:Nat} {u:Value} {p c:Int} (hF:fn.results=#[.cell 2 24,.cell 3 27]) (hd:act.defers=[]) (h2:act.tmps.getD 2 undef=.pointer (some ⟨j,0,none⟩)) (h3:act.tmps.getD 3 undef=.pointer (some ⟨k,0,none⟩)) (hG:GX W j u) (hT:FX W k p c) (hR:R (.returned (.tuple #[.agg #[u],.agg #[.int .i64 p,.int .i64 c]])) W):bodyPost Tryz.prog fn R .ret act W:=by
 have c0:=hT.c0;have c1:=hT.c1;have g0:=hG.cl;refine bodyPost_ret (v:=.tuple #[.agg #[u],.agg #[.int .i64 p,.int .i64 c]]) ?_ hd hR;simp only [Array.getD_eq_getD_getElem?] at h2 h3;simp [results,hF,go_sem,h2,h3,c0,c1,g0]
structure PB (w W:World):Prop where
 b:Below w.heap.size w W
 g:GX W w.heap.size (.slice none 0 0)
 f:FX W (w.heap.size+1) 0 0
theorem PB.later {w W W':World} (h:PB w W) (hb:Below W.heap.size W W'):PB w W':=⟨h.b.trans (hb.mono h.b.size),h.g.below hb,h.f.below hb⟩
theorem PB.new (w:World):PB w ((w.alloc (.cells #[.slice none 0 0] 24)).alloc fxZ) :=
 ⟨((bR _ _).alloc (nL _) _).alloc (by rw [sA];omega) _,(GX.mk (heap_alloc_new w _)).below (zaa _ _),⟨by have h:=heap_alloc_new (w.alloc (.cells #[.slice none 0 0] 24)) fxZ;(try unfold rB at h);rw [sA] at h;exact h⟩⟩
abbrev pbW (w W:World) (u:Value) (p c:Int):World:=((W.setCell ⟨w.heap.size,0,none⟩ u).setCell ⟨w.heap.size+1,0,none⟩ (.int .i64 p)).setCell ⟨w.heap.size+1,1,none⟩ (.int .i64 c)
theorem zkU {w W:World} {u:Value} {p c:Int} {j:Nat} (h1:j≠w.heap.size) (h2:j≠w.heap.size+1):(pbW w W u p c).heap[j]?=W.heap[j]? :=
 (bS _ _ _ _ h2).trans ((bS _ _ _ _ h2).trans (bS _ _ _ _ h1))
theorem PB.fin {w W:World} (h:PB w W) (u:Value) (p c:Int):GX (pbW w W u p c) w.heap.size u/\FX (pbW w W u p c) (w.heap.size+1) p c/\Below w.heap.size w (pbW w W u p c):=by
 have q1:GX (W.setCell ⟨w.heap.size,0,none⟩ u) w.heap.size u:=h.g.set u;have q2:FX (W.setCell ⟨w.heap.size,0,none⟩ u) (w.heap.size+1) 0 0:=⟨(bS _ _ _ _ (by show w.heap.size+1≠w.heap.size;omega)).trans h.f.heap⟩;refine ⟨q1.same ((bS _ _ _ _ (by show w.heap.size≠w.heap.size+1;omega)).trans (bS _ _ _ _ (by show w.heap.size≠w.heap.size+1;omega))),zkQ q2 p c,?_⟩;exact ((h.b.setCell (p:=⟨w.heap.size,0,none⟩) (nL _) _).setCell (p:=⟨w.heap.size+1,0,none⟩) (Nat.le_succ _) _).setCell (p:=⟨w.heap.size+1,1,none⟩) (Nat.le_succ _) _
theorem zhd {W:World} {b:Nat} {p e:Int} (h:FX W b p e):FX W.drew b p e:=⟨h.heap⟩
theorem Rws.ge {E:PE} {z:Nat} {w0 W:World} {u pv:Value} {ov:List (Rl×Value)} (h:Rws E z w0 W u pv ov) {j:Nat} (hj:u.ownBlock=some j∨pv.ownBlock=some j∨∃x∈ov,x.2.ownBlock=some j):w0.heap.size<=j:=by
 rcases hj with q | q | ⟨x,hx,q⟩
 ·exact (h.o.lt j q).1
 ·exact (h.p.lt j q).1
 ·exact ((h.b.e x hx).lt j q).1
theorem zgp {E:PE} (hE:OkE E) {rs:List Rl} (h:rdN E=.inl rs):(∀r∈rs,∀n∈r.2.2,n.tx.size<=65536)/\rs.length<=65536/\∀r∈rs,r.2.2.length<=2000000000000:=by
 refine ⟨rdN_tx hE h,?_⟩
 cases hr:ruB E 0 with
 | true =>
  unfold rdN at h;rw [iP hr] at h;have:=rl_len hE _ _ _ _ (Nat.zero_le _) (nL _) (fun r hr=>by cases hr) h;exact ⟨Nat.le_trans this.1 hE.len,this.2⟩
 | false =>
  rw [zj6 (by rw [hr];decide)] at h;refine ⟨?_,fun r hr=>(al_tx hE h r hr).2⟩;unfold alN at h
  cases hx:exN E 0 with
  | inr q=>rw [hx] at h;cases h
  | inl p =>
   rw [hx] at h;dsimp only at h
   split at h
   ·cases h
   ·cases h;simp
theorem zhe (s:ByteArray) (hl:65536<s.size) (hs:s.size<=140737488355000) (w:World):Calls Tryz.prog 10 #[.string s] w (rB w (.tuple #[.agg #[.slice none 0 0],.agg #[.int .i64 0,.int .i64 2]])):=by
 have HP:=hO (PB.new w);obtain ⟨w1,hw1⟩:∃x,(w.alloc (.cells #[.slice none 0 0] 24)).alloc fxZ=x:=⟨_,rfl⟩;rw [hw1] at HP;have HE1:=hO hw1;have hs1:w1.heap.size=w.heap.size+2:=by rw [<-hw1,sA,sA]
 have z1:(65536:Int)<(s.size:Int):=by omega
 clear hw1 hl hs hs1;have a0:=HP.g.cl;have a1:=HP.g.fz;have b0:=HP.f.c0;have b1:=HP.f.c1;have b2:=HP.f.f0;have b3:=HP.f.f1;go_enter Tryz.func10,Tryz.ntmps10;go_wp2_with (rw [HE1.out])
 have hF:=HP.fin (.slice none 0 0) 0 2;refine zgo rfl rfl rfl rfl hF.1 hF.2.1 ?_;exact ⟨rfl,hF.2.2⟩
theorem ziy (s:ByteArray) (hl:¬65536<s.size) (w:World) (q:Nat×Int) (hq:zbi (zaN s) s=.inr q):Calls Tryz.prog 10 #[.string s] w (rB w (.tuple #[.agg #[.slice none 0 0],.agg #[.int .i64 q.1,.int .i64 q.2]])):=by
 have HP:=hO (PB.new w);obtain ⟨w1,hw1⟩:∃x,(w.alloc (.cells #[.slice none 0 0] 24)).alloc fxZ=x:=⟨_,rfl⟩;rw [hw1] at HP;have HE1:=hO hw1;have hs1:w1.heap.size=w.heap.size+2:=by rw [<-hw1,sA,sA]
 have HX:Hid (∀W,Cl 17 #[.string s] W (rB W (.tuple #[.slice none 0 0,.int .i64 q.1,.int .i64 q.2]))):=fun W=>by
  have:=zcb s (by omega) W;rw [hq] at this;exact this
 have z1:¬(65536:Int)<(s.size:Int):=by omega
 have t1:(q.2 != 0)=true:=by simpa using (zfK hq).2
 obtain ⟨q1,q2⟩:=q;dsimp only at *;clear hw1 hl hs1 hq;go_enter Tryz.func10,Tryz.ntmps10;go_wp2_with (rw [HE1.out])
 refine (HX _).mono ?_;rintro e w2 ⟨rfl,hb⟩;have HP2:=hO (HP.later hb);clear hb HX HP HE1;have a0:=HP2.g.cl;have a1:=HP2.g.fz;have b0:=HP2.f.c0;have b1:=HP2.f.c1;have b2:=HP2.f.f0;have b3:=HP2.f.f1;go_wp2_with fail;have hF:=HP2.fin (.slice none 0 0) q1 q2;refine zgo rfl rfl rfl rfl hF.1 hF.2.1 ?_;exact ⟨rfl,hF.2.2⟩
theorem ziz (s:ByteArray) (h65:¬65536<s.size) (w:World) (l:List Tk) (hl:zbi (zaN s) s=.inl l) (q:Nat×Int) (hq:rdN (mkE l)=.inr q):Calls Tryz.prog 10 #[.string s] w (rB w (.tuple #[.agg #[.slice none 0 0],.agg #[.int .i64 (plA (mkE l) s.size q.1),.int .i64 q.2]])):=by
 have HP:=hO (PB.new w);obtain ⟨w1,hw1⟩:∃x,(w.alloc (.cells #[.slice none 0 0] 24)).alloc fxZ=x:=⟨_,rfl⟩;rw [hw1] at HP;have HE1:=hO hw1;have hs1:w1.heap.size=w.heap.size+2:=by rw [<-hw1,sA,sA]
 have hE:=zeF hl;have HX:Hid (∀W,Cl 17 #[.string s] W fun e w'=>(∃v,e=.returned (.tuple #[v,.int .i64 0,.int .i64 0])/\w'.ownsRow W.heap.size 79 9 v l.length (tkc l))/\Below W.heap.size W w'):=fun W=>by
  have:=zcb s (by omega) W;rw [hl] at this;exact this
 have HRd:Hid (∀W2 v,W2.ownsRow w1.heap.size 79 9 v l.length (tkc l)->Below w1.heap.size w1 W2->Cl 27 #[rdV v 0 s.size 0 (.slice none 0 0) 0 0] W2 fun e W'=>RdD (mkE l) s.size w1 v (rdN (mkE l)) e W'):=fun W2 v ho hb=>by
  obtain ⟨A,c,hv⟩:=zag ho;subst hv;exact zeJ hE ⟨hb,ho,World.ownsRow_nil _ _ _ _,Nat.zero_le _,Nat.zero_le _⟩
 have z1:¬(65536:Int)<(s.size:Int):=by omega
 have hq2:q.2≠0:=by have:=(znl hq).2;omega
 rw [hq] at HRd;obtain ⟨p1,hp1⟩:∃x,plA (mkE l) s.size q.1=x:=⟨_,rfl⟩;obtain ⟨p2,hp2⟩:∃x,q.2=x:=⟨_,rfl⟩;rw [hp1,hp2];rw [hp2] at hq2;have HPq:Hid (plA (mkE l) s.size q.1=p1/\q.2=p2):=⟨hp1,hp2⟩;have HOk:Hid (∀(At:Option Addr) (nt ct:Nat) (i z d:Int) (A:Option Addr) (n c:Nat) (p:Int) W,Cl 28 #[rdV (.slice At nt ct) i z d (.slice A n c) p p2] W (rB W (.bool false))):=fun At nt ct i z d A n c p W=>by
  have:=zaO At nt ct i z d A n c p p2 W;rw [show (p2==0)=false from by simpa using hq2] at this;exact this
 clear hw1 hs1 hE hl hq h65 hp1 hp2 hq2;go_enter Tryz.func10,Tryz.ntmps10;go_wp2_with (rw [HE1.out])
 refine (HX _).mono ?_;rintro e w2 ⟨⟨v,rfl,ho⟩,hb⟩;obtain ⟨A,ct,hv⟩:=zag ho;subst hv;have HP2:=hO (HP.later hb);have HO2:=hO ho;have HB2:Hid (Below w1.heap.size w1 w2):=hb;clear ho hb HX HE1;go_wp2_with fail;refine (HRd _ _ HO2.out HB2.out).mono ?_;intro e w3 hR;obtain ⟨i3,d3,A3,l3,c3,A4,l4,c4,pv,rfl,hb3⟩:=hR;rw [HPq.1,HPq.2];have HP3:Hid (PB w w3):=⟨HP.b.trans (hb3.mono HP.b.size),HP.g.below hb3,HP.f.below hb3⟩;clear hb3 HRd HO2 HB2 HP2 HP HPq;obtain ⟨w4,hw4⟩:∃x,(w3.alloc (.cells #[.slice A l.length ct,.int .i64 i3,.int .i64 s.size,.int .i64 d3,.slice A3 l3 c3,.int .i64 p1,.int .i64 p2] 65)).alloc (.cells #[.slice A4 l4 c4] 24)=x:=⟨_,rfl⟩;have hb4:Below w3.heap.size w3 w4:=by rw [<-hw4];exact ((bR _ _).alloc (nL _) _).alloc (by rw [sA];omega) _
 have HD4:Hid (DB w4 w3.heap.size (.slice A l.length ct) (.int .i64 i3) (.int .i64 s.size) (.int .i64 d3) (.slice A3 l3 c3) (.int .i64 p1) (.int .i64 p2)):=by rw [<-hw4];exact (DB.mk (heap_alloc_new w3 _)).below (zaa _ _)
 have HG4:Hid (GX w4 (w3.heap.size+1) (.slice A4 l4 c4)):=by rw [<-hw4];exact ⟨by have h:=heap_alloc_new (w3.alloc (.cells #[.slice A l.length ct,.int .i64 i3,.int .i64 s.size,.int .i64 d3,.slice A3 l3 c3,.int .i64 p1,.int .i64 p2] 65)) (.cells #[.slice A4 l4 c4] 24);(try unfold rB at h);rw [sA] at h;exact h⟩
 have HE4:=hO hw4;have HP4:=hO (HP3.later hb4);obtain ⟨k0,k1,k2,k3,k4,k5,k6⟩:=HD4.cl;clear hw4 hb4 HP3;go_wp2_with (rw [HE4.out])
 refine (HOk _ _ _ _ _ _ _ _ _ _ _).mono ?_;rintro e w5 ⟨rfl,hb⟩;have HD5:=hO (HD4.below hb);have HP5:=hO (HP4.later hb);clear hb HOk HD4 HP4 HG4 HE4 k0 k1 k2 k3 k4 k5 k6;obtain ⟨k0,k1,k2,k3,k4,k5,k6⟩:=HD5.cl;have a0:=HP5.g.cl;have a1:=HP5.g.fz;have b0:=HP5.f.c0;have b1:=HP5.f.c1;have b2:=HP5.f.f0;have b3:=HP5.f.f1;go_wp2_with fail;go_region
 all_goals
  go_wp2_with fail;have hF:=HP5.fin (.slice none 0 0) p1 p2;refine zgo rfl rfl rfl rfl hF.1.drew (zhd hF.2.1) ?_;exact ⟨rfl,hF.2.2.drew⟩
theorem zkV (s:ByteArray) (h65:¬65536<s.size) (w:World) (l:List Tk) (hl:zbi (zaN s) s=.inl l) (rs:List Rl) (hq:rdN (mkE l)=.inl rs) (p:Int×Int) (hsz:szR (mkE l) s.size rs=some p):Calls Tryz.prog 10 #[.string s] w (rB w (.tuple #[.agg #[.slice none 0 0],.agg #[.int .i64 p.1,.int .i64 p.2]])):=by
 have HP:=hO (PB.new w);obtain ⟨w1,hw1⟩:∃x,(w.alloc (.cells #[.slice none 0 0] 24)).alloc fxZ=x:=⟨_,rfl⟩;rw [hw1] at HP;have HE1:=hO hw1;have hs1:w1.heap.size=w.heap.size+2:=by rw [<-hw1,sA,sA]
 have hE:=zeF hl;have HX:Hid (∀W,Cl 17 #[.string s] W fun e w'=>(∃v,e=.returned (.tuple #[v,.int .i64 0,.int .i64 0])/\w'.ownsRow W.heap.size 79 9 v l.length (tkc l))/\Below W.heap.size W w'):=fun W=>by
  have:=zcb s (by omega) W;rw [hl] at this;exact this
 have HRd:Hid (∀W2 v,W2.ownsRow w1.heap.size 79 9 v l.length (tkc l)->Below w1.heap.size w1 W2->Cl 27 #[rdV v 0 s.size 0 (.slice none 0 0) 0 0] W2 fun e W'=>RdD (mkE l) s.size w1 v (rdN (mkE l)) e W'):=fun W2 v ho hb=>by
  obtain ⟨A,c,hv⟩:=zag ho;subst hv;exact zeJ hE ⟨hb,ho,World.ownsRow_nil _ _ _ _,Nat.zero_le _,Nat.zero_le _⟩
 have z1:¬(65536:Int)<(s.size:Int):=by omega
 have hbd:=zgp hE hq;rw [hq] at HRd;have HSd:Hid (∀W u pv ov,Rws (mkE l) s.size w1 W u pv ov->ov.map (·.1)=rs->Cl 29 #[.agg #[u],pv] W (rB W (.agg #[.int .i64 p.1,.int .i64 p.2]))):=fun W u pv ov h1 h2=>by
  have:=zm7 h1 (fun x hx=>hbd.1 _ (by rw [<-h2];exact List.mem_map.2 ⟨x,hx,rfl⟩)) (fun x hx=>hbd.2.2 _ (by rw [<-h2];exact List.mem_map.2 ⟨x,hx,rfl⟩)) (by rw [<-h2,List.length_map] at hbd;exact hbd.2.1);rw [h2,hsz] at this;exact this
 have t1:(p.2 != 0)=true:=by simpa using (zhP hsz).1
 obtain ⟨p1,p2⟩:=p;dsimp only at *;clear hs1;have HOk:Hid (∀(At:Option Addr) (nt ct:Nat) (i z d:Int) (A:Option Addr) (n c:Nat) (p:Int) W,Cl 28 #[rdV (.slice At nt ct) i z d (.slice A n c) p 0] W (rB W (.bool true))):=fun At nt ct i z d A n c p W=>zaO At nt ct i z d A n c p 0 W
 clear hw1 hE hl hq h65 hbd hsz;go_enter Tryz.func10,Tryz.ntmps10;go_wp2_with (rw [HE1.out])
 refine (HX _).mono ?_;rintro e w2 ⟨⟨v,rfl,ho⟩,hb⟩;obtain ⟨A,ct,hv⟩:=zag ho;subst hv;have HP2:=hO (HP.later hb);have HO2:=hO ho;have HB2:Hid (Below w1.heap.size w1 w2):=hb;clear ho hb HX HE1;go_wp2_with fail;refine (HRd _ _ HO2.out HB2.out).mono ?_;intro e w3 hR;obtain ⟨i3,d3,A3,l3,c3,u,pv,ov,rfl,hrs,ho,hbds,hpv,hb3⟩:=hR;obtain ⟨A4,c4,hu⟩:=zag ho;obtain ⟨A5,c5,hp5⟩:=zag hpv;subst hu hp5;obtain ⟨l4,hl4⟩:∃x,x=ov.length:=⟨_,rfl⟩;have HR3:Hid (Rws (mkE l) s.size w1 w3 (.slice A4 l4 c4) (.slice A5 l4 c5) ov):=by rw [hl4];exact ⟨ho,hpv,hbds⟩
 have HP3:Hid (PB w w3):=⟨HP.b.trans (hb3.mono HP.b.size),HP.g.below hb3,HP.f.below hb3⟩;have HRs:=hO hrs;rw [<-hl4];clear hb3 HRd HO2 HB2 HP2 HP ho hbds hpv hrs hl4;obtain ⟨w4,hw4⟩:∃x,(w3.alloc (.cells #[.slice A l.length ct,.int .i64 i3,.int .i64 s.size,.int .i64 d3,.slice A3 l3 c3,.int .i64 0,.int .i64 0] 65)).alloc (.cells #[.slice A4 l4 c4] 24)=x:=⟨_,rfl⟩;have hb4:Below w3.heap.size w3 w4:=by rw [<-hw4];exact ((bR _ _).alloc (nL _) _).alloc (by rw [sA];omega) _
 have HD4:Hid (DB w4 w3.heap.size (.slice A l.length ct) (.int .i64 i3) (.int .i64 s.size) (.int .i64 d3) (.slice A3 l3 c3) (.int .i64 0) (.int .i64 0)):=by rw [<-hw4];exact (DB.mk (heap_alloc_new w3 _)).below (zaa _ _)
 have HG4:Hid (GX w4 (w3.heap.size+1) (.slice A4 l4 c4)):=by rw [<-hw4];exact ⟨by have h:=heap_alloc_new (w3.alloc (.cells #[.slice A l.length ct,.int .i64 i3,.int .i64 s.size,.int .i64 d3,.slice A3 l3 c3,.int .i64 0,.int .i64 0] 65)) (.cells #[.slice A4 l4 c4] 24);(try unfold rB at h);rw [sA] at h;exact h⟩
 have HE4:=hO hw4;have HP4:=hO (HP3.later hb4);have HR4:=hO (HR3.later hb4);obtain ⟨k0,k1,k2,k3,k4,k5,k6⟩:=HD4.cl;clear hw4 hb4 HP3 HR3;go_wp2_with (rw [HE4.out])
 refine (HOk _ _ _ _ _ _ _ _ _ _ _).mono ?_;rintro e w5 ⟨rfl,hb⟩;have HG5:=hO (HG4.below hb);have HP5:=hO (HP4.later hb);have HR5:=hO (HR4.later hb);clear hb HOk HD4 HP4 HR4 HG4 HE4 k0 k1 k2 k3 k4 k5 k6;have g5:=HG5.cl;go_wp2_with fail;refine (HSd _ _ _ _ HR5.out HRs.out).mono ?_;rintro e w6 ⟨rfl,hb⟩;obtain ⟨w7,hw7⟩:∃x,w6.alloc (.cells #[.int .i64 p1,.int .i64 p2] 27)=x:=⟨_,rfl⟩;have hb7:Below w6.heap.size w6 w7:=by rw [<-hw7];exact zaa _ _
 have HP7:=hO ((HP5.later hb).later hb7);have HF7:Hid (FX w7 w6.heap.size p1 p2):=by rw [<-hw7];exact ⟨heap_alloc_new w6 _⟩
 have HE7:=hO hw7;have hlt6:=(HP5.later hb).f.lt;have n1:¬w6.heap.size=w.heap.size:=by omega
 have n2:¬w.heap.size=w6.heap.size:=by omega
 have n3:¬w6.heap.size=w.heap.size+1:=by omega
 have n4:¬w.heap.size+1=w6.heap.size:=by omega
 clear hb hb7 hw7 HG5 HP5 HR5 g5 HSd hlt6;have x0:=HF7.c0;have x1:=HF7.c1;have a0:=HP7.g.cl;have a1:=HP7.g.fz;have b0:=HP7.f.c0;have b1:=HP7.f.c1;have b2:=HP7.f.f0;have b3:=HP7.f.f1;go_wp2_with (rw [HE7.out])
 go_region
 all_goals
  go_wp2_with fail;have hF:=HP7.fin (.slice none 0 0) p1 p2;refine zgo rfl rfl rfl rfl hF.1.drew (zhd hF.2.1) ?_;exact ⟨rfl,hF.2.2.drew⟩
theorem zkW (s:ByteArray) (h65:¬65536<s.size) (w:World) (l:List Tk) (hl:zbi (zaN s) s=.inl l) (rs:List Rl) (hq:rdN (mkE l)=.inl rs) (hsz:szR (mkE l) s.size rs=none):Calls Tryz.prog 10 #[.string s] w fun e w'=>PgV w' (.inl (rs.map fun r=>r.2)) e/\Below w.heap.size w w':=by
 have HP:=hO (PB.new w);obtain ⟨w1,hw1⟩:∃x,(w.alloc (.cells #[.slice none 0 0] 24)).alloc fxZ=x:=⟨_,rfl⟩;rw [hw1] at HP;have HE1:=hO hw1;have hs1:w1.heap.size=w.heap.size+2:=by rw [<-hw1,sA,sA]
 have hE:=zeF hl;have HX:Hid (∀W,Cl 17 #[.string s] W fun e w'=>(∃v,e=.returned (.tuple #[v,.int .i64 0,.int .i64 0])/\w'.ownsRow W.heap.size 79 9 v l.length (tkc l))/\Below W.heap.size W w'):=fun W=>by
  have:=zcb s (by omega) W;rw [hl] at this;exact this
 have HRd:Hid (∀W2 v,W2.ownsRow w1.heap.size 79 9 v l.length (tkc l)->Below w1.heap.size w1 W2->Cl 27 #[rdV v 0 s.size 0 (.slice none 0 0) 0 0] W2 fun e W'=>RdD (mkE l) s.size w1 v (rdN (mkE l)) e W'):=fun W2 v ho hb=>by
  obtain ⟨A,c,hv⟩:=zag ho;subst hv;exact zeJ hE ⟨hb,ho,World.ownsRow_nil _ _ _ _,Nat.zero_le _,Nat.zero_le _⟩
 have z1:¬(65536:Int)<(s.size:Int):=by omega
 have hbd:=zgp hE hq;rw [hq] at HRd;have HSd:Hid (∀W u pv ov,Rws (mkE l) s.size w1 W u pv ov->ov.map (·.1)=rs->Cl 29 #[.agg #[u],pv] W (rB W (.agg #[.int .i64 0,.int .i64 0]))):=fun W u pv ov h1 h2=>by
  have:=zm7 h1 (fun x hx=>hbd.1 _ (by rw [<-h2];exact List.mem_map.2 ⟨x,hx,rfl⟩)) (fun x hx=>hbd.2.2 _ (by rw [<-h2];exact List.mem_map.2 ⟨x,hx,rfl⟩)) (by rw [<-h2,List.length_map] at hbd;exact hbd.2.1);rw [h2,hsz] at this;exact this
 have HOk:Hid (∀(At:Option Addr) (nt ct:Nat) (i z d:Int) (A:Option Addr) (n c:Nat) (p:Int) W,Cl 28 #[rdV (.slice At nt ct) i z d (.slice A n c) p 0] W (rB W (.bool true))):=fun At nt ct i z d A n c p W=>zaO At nt ct i z d A n c p 0 W
 clear hw1 hE hl hq h65 hbd hsz;go_enter Tryz.func10,Tryz.ntmps10;go_wp2_with (rw [HE1.out])
 refine (HX _).mono ?_;rintro e w2 ⟨⟨v,rfl,ho⟩,hb⟩;obtain ⟨A,ct,hv⟩:=zag ho;subst hv;have HP2:=hO (HP.later hb);have HO2:=hO ho;have HB2:Hid (Below w1.heap.size w1 w2):=hb;clear ho hb HX HE1;go_wp2_with fail;refine (HRd _ _ HO2.out HB2.out).mono ?_;intro e w3 hR;obtain ⟨i3,d3,A3,l3,c3,u,pv,ov,rfl,hrs,ho,hbds,hpv,hb3⟩:=hR;obtain ⟨A4,c4,hu⟩:=zag ho;obtain ⟨A5,c5,hp5⟩:=zag hpv;subst hu hp5;obtain ⟨l4,hl4⟩:∃x,x=ov.length:=⟨_,rfl⟩;have HR3:Hid (Rws (mkE l) s.size w1 w3 (.slice A4 l4 c4) (.slice A5 l4 c5) ov):=by rw [hl4];exact ⟨ho,hpv,hbds⟩
 have HP3:Hid (PB w w3):=⟨HP.b.trans (hb3.mono HP.b.size),HP.g.below hb3,HP.f.below hb3⟩;have HRs:=hO hrs;rw [<-hl4];clear hb3 HRd HO2 HB2 HP2 HP ho hbds hpv hrs hl4;obtain ⟨w4,hw4⟩:∃x,(w3.alloc (.cells #[.slice A l.length ct,.int .i64 i3,.int .i64 s.size,.int .i64 d3,.slice A3 l3 c3,.int .i64 0,.int .i64 0] 65)).alloc (.cells #[.slice A4 l4 c4] 24)=x:=⟨_,rfl⟩;have hb4:Below w3.heap.size w3 w4:=by rw [<-hw4];exact ((bR _ _).alloc (nL _) _).alloc (by rw [sA];omega) _
 have HD4:Hid (DB w4 w3.heap.size (.slice A l.length ct) (.int .i64 i3) (.int .i64 s.size) (.int .i64 d3) (.slice A3 l3 c3) (.int .i64 0) (.int .i64 0)):=by rw [<-hw4];exact (DB.mk (heap_alloc_new w3 _)).below (zaa _ _)
 have HG4:Hid (GX w4 (w3.heap.size+1) (.slice A4 l4 c4)):=by rw [<-hw4];exact ⟨by have h:=heap_alloc_new (w3.alloc (.cells #[.slice A l.length ct,.int .i64 i3,.int .i64 s.size,.int .i64 d3,.slice A3 l3 c3,.int .i64 0,.int .i64 0] 65)) (.cells #[.slice A4 l4 c4] 24);(try unfold rB at h);rw [sA] at h;exact h⟩
 have HE4:=hO hw4;have HP4:=hO (HP3.later hb4);have HR4:=hO (HR3.later hb4);obtain ⟨k0,k1,k2,k3,k4,k5,k6⟩:=HD4.cl;clear hw4 hb4 HP3 HR3;go_wp2_with (rw [HE4.out])
 refine (HOk _ _ _ _ _ _ _ _ _ _ _).mono ?_;rintro e w5 ⟨rfl,hb⟩;have HG5:=hO (HG4.below hb);have HP5:=hO (HP4.later hb);have HR5:=hO (HR4.later hb);clear hb HOk HD4 HP4 HR4 HG4 HE4 k0 k1 k2 k3 k4 k5 k6;have g5:=HG5.cl;go_wp2_with fail;refine (HSd _ _ _ _ HR5.out HRs.out).mono ?_;rintro e w6 ⟨rfl,hb⟩;have HP6:=hO (HP5.later hb);have HR6:=hO (HR5.later hb);have HG6:=hO (HG5.below hb);clear hb HG5 HP5 HR5 g5 HSd;obtain ⟨w7,hw7⟩:∃x,w6.alloc (.cells #[.int .i64 0,.int .i64 0] 27)=x:=⟨_,rfl⟩;have hb7:Below w6.heap.size w6 w7:=by rw [<-hw7];exact zaa _ _
 have HP7:=hO (HP6.later hb7);have HR7:=hO (HR6.later hb7);have HG7:=hO (HG6.below hb7);have HF7:Hid (FX w7 w6.heap.size 0 0):=by rw [<-hw7];exact ⟨heap_alloc_new w6 _⟩
 have hlt6:w3.heap.size+1<w6.heap.size:=HG6.lt;have g6:=HG6.cl;have HW7:Hid (w7=w6.alloc (.cells #[.int .i64 0,.int .i64 0] 27)):=hw7.symm;clear hb7 hw7;have x0:=HF7.c0;have x1:=HF7.c1;have g7:=HG7.cl;have a0:=HP7.g.cl;have a1:=HP7.g.fz;have b0:=HP7.f.c0;have b1:=HP7.f.c1;have b2:=HP7.f.f0;have b3:=HP7.f.f1;rw [HW7.out] at x0 x1 g7 a0 a1 b0 b1 b2 b3;go_wp2_with fail;have hF:=HP7.fin (.slice A4 l4 c4) 0 0;have hRF:Rws (mkE l) s.size w1 (pbW w w7 (.slice A4 l4 c4) 0 0) (.slice A4 l4 c4) (.slice A5 l4 c5) ov:=HR7.same fun j hj=>by
  have:=HR7.ge hj;rw [hs1] at this;exact zkU (by omega) (by omega)
 rw [HW7.out] at hF hRF;refine zgo rfl rfl rfl rfl hF.1 hF.2.1 ?_;exact ⟨⟨_,rfl,by rw [<-HRs.out,List.map_map];exact GrR.of (w:=w1) (by have h9:=hRF.o;obtain ⟨A9,c9,e9⟩:=zag h9;exact h9) hRF.b⟩,hF.2.2⟩
theorem zfd (s:ByteArray) (hs:s.size<=140737488355000) (w:World):Calls Tryz.prog 10 #[.string s] w fun e w'=>PgV w' (psR s) e/\Below w.heap.size w w':=by
 by_cases h65:65536<s.size
 ·have:psR s=.inr (0,2):=by unfold psR zbi;rw [iP h65];rfl
  rw [this];exact zhe s h65 hs w
 ·unfold psR
  cases hl:zbi (zaN s) s with
  | inr q=>exact ziy s h65 w q hl
  | inl l =>
   dsimp only;unfold fin
   cases hr:rdN (mkE l) with
   | inr q=>exact ziz s h65 w l hl q hr
   | inl rs =>
    dsimp only
    cases hz:szR (mkE l) s.size rs with
    | some p=>exact zkV s h65 w l hl rs hr p hz
    | none=>exact zkW s h65 w l hl rs hr hz
def PqV (w':World) (r:Sum (List (ByteArray×List Nd)) (Int×Int)) (e:Ending):Prop:=match r with
 | .inr p=>e=.returned (.tuple #[.slice none 0 0,.agg #[.int .i64 p.1,.int .i64 p.2]])
 | .inl gs=>∃ns A c,gs=[(⟨#[]⟩,ns)]/\e=.returned (.tuple #[.slice A ns.length c,.agg #[.int .i64 0,.int .i64 0]])/\T.RdN w' A ns
theorem ru_ex {E:PE} (h:ruB E 0=true):exN E 0=.inr (0,60):=by
 have hb:bgn E 0=false:=by
  unfold ruB at h;simp only [Bool.and_eq_true,beq_iff_eq] at h;unfold bgn;rw [h.1,h.2];rfl
 rw [<-zlc,g0 E 0 0 (Nat.zero_le _),g2 E 0 0 (Nat.zero_le _),g4 E 0 0 (Nat.zero_le _),iN (by rw [hb];decide)];rfl
theorem fld65 (t v:Value) (i z d p c:Int) (W:World):(Instr.field 65 (rdV t i z d v p c) 5).run Tryz.prog W=.ok (.agg #[.int .i64 p,.int .i64 c]) W:=by simp [Instr.field,asAgg,go_sem]
theorem rd_fx {W W':World} {A:Option Addr} {L:List Nd} (h:T.RdN W A L) {k:Nat} {p c:Int} (hf:FX W k p c) (hs:W.heap.size<=W'.heap.size) (hk:∀j,j≠k->W'.heap[j]?=W.heap[j]?):T.RdN W' A L:=fun hl=>by
 obtain ⟨g,o,e,lt,q⟩:=h hl;refine ⟨g,o,e,nM lt hs,q.same (hk g fun hgk=>?_)⟩;subst hgk;obtain ⟨n,L',rfl⟩:=List.exists_cons_of_ne_nil hl;have h2:=(q 0 n rfl).c2;rw [cell_of_row W g _ _ 27 (0,0) hf.heap] at h2;simp at h2
abbrev fxW (w W:World) (p c:Int):World:=(W.setCell ⟨w.heap.size,0,none⟩ (.int .i64 p)).setCell ⟨w.heap.size,1,none⟩ (.int .i64 c)
structure PF1 (w W:World):Prop where
 b:Below w.heap.size w W
 f:FX W w.heap.size 0 0
theorem PF1.later {w W W':World} (h:PF1 w W) (hb:Below W.heap.size W W'):PF1 w W':=⟨h.b.trans (hb.mono h.b.size),h.f.below hb⟩
theorem PF1.new (w:World):PF1 w (w.alloc fxZ):=⟨zaa _ _,⟨heap_alloc_new w _⟩⟩
theorem PF1.fin {w W:World} (h:PF1 w W) (p c:Int):FX (fxW w W p c) w.heap.size p c/\Below w.heap.size w (fxW w W p c) :=
 ⟨zkQ h.f p c,(h.b.setCell (p:=⟨w.heap.size,0,none⟩) (nL _) _).setCell (p:=⟨w.heap.size,1,none⟩) (nL _) _⟩
theorem zkX {w W:World} {p c:Int} {j:Nat} (h1:j≠w.heap.size):(fxW w W p c).heap[j]?=W.heap[j]?:=(bS _ _ _ _ h1).trans (bS _ _ _ _ h1)
theorem zkY (s:ByteArray) (hl:65536<s.size) (hs:s.size<=140737488355000) (w:World):Calls Tryz.prog 14 #[.string s] w (rB w (.tuple #[.slice none 0 0,.agg #[.int .i64 0,.int .i64 2]])):=by
 have HP:=hO (PF1.new w);obtain ⟨w1,hw1⟩:∃x,w.alloc fxZ=x:=⟨_,rfl⟩;rw [hw1] at HP;have HE1:=hO hw1;have hs1:w1.heap.size=w.heap.size+1:=by rw [<-hw1,sA]
 have z1:(65536:Int)<(s.size:Int):=by omega
 clear hw1 hl hs hs1;have b0:=HP.f.c0;have b1:=HP.f.c1;have b2:=HP.f.f0;have b3:=HP.f.f1;go_enter Tryz.func14,Tryz.ntmps14;go_wp2_with (rw [HE1.out])
 have hF:=HP.fin 0 2;refine zd0 rfl rfl rfl rfl hF.1 ?_;exact ⟨rfl,hF.2⟩
theorem zmB (s:ByteArray) (hl:¬65536<s.size) (w:World) (q:Nat×Int) (hq:zbi (zaN s) s=.inr q):Calls Tryz.prog 14 #[.string s] w (rB w (.tuple #[.slice none 0 0,.agg #[.int .i64 q.1,.int .i64 q.2]])):=by
 have HP:=hO (PF1.new w);obtain ⟨w1,hw1⟩:∃x,w.alloc fxZ=x:=⟨_,rfl⟩;rw [hw1] at HP;have HE1:=hO hw1;have hs1:w1.heap.size=w.heap.size+1:=by rw [<-hw1,sA]
 have HX:Hid (∀W,Cl 17 #[.string s] W (rB W (.tuple #[.slice none 0 0,.int .i64 q.1,.int .i64 q.2]))):=fun W=>by
  have:=zcb s (by omega) W;rw [hq] at this;exact this
 have z1:¬(65536:Int)<(s.size:Int):=by omega
 have t1:(q.2 != 0)=true:=by simpa using (zfK hq).2
 obtain ⟨q1,q2⟩:=q;dsimp only at *;clear hw1 hl hs1 hq;go_enter Tryz.func14,Tryz.ntmps14;go_wp2_with (rw [HE1.out])
 refine (HX _).mono ?_;rintro e w2 ⟨rfl,hb⟩;have HP2:=hO (HP.later hb);clear hb HX HP HE1;have b0:=HP2.f.c0;have b1:=HP2.f.c1;have b2:=HP2.f.f0;have b3:=HP2.f.f1;go_wp2_with fail;have hF:=HP2.fin q1 q2;refine zd0 rfl rfl rfl rfl hF.1 ?_;exact ⟨rfl,hF.2⟩
theorem zo7 (s:ByteArray) (h65:¬65536<s.size) (w:World) (l:List Tk) (hl:zbi (zaN s) s=.inl l) (hr:ruB (mkE l) 0=true):Calls Tryz.prog 14 #[.string s] w (rB w (.tuple #[.slice none 0 0,.agg #[.int .i64 (plA (mkE l) s.size 0),.int .i64 60]])):=by
 have HP:=hO (PF1.new w);obtain ⟨w1,hw1⟩:∃x,w.alloc fxZ=x:=⟨_,rfl⟩;rw [hw1] at HP;have HE1:=hO hw1;have hs1:w1.heap.size=w.heap.size+1:=by rw [<-hw1,sA]
 have hE:=zeF hl;have HX:Hid (∀W,Cl 17 #[.string s] W fun e w'=>(∃v,e=.returned (.tuple #[v,.int .i64 0,.int .i64 0])/\w'.ownsRow W.heap.size 79 9 v l.length (tkc l))/\Below W.heap.size W w'):=fun W=>by
  have:=zcb s (by omega) W;rw [hl] at this;exact this
 have HRu:Hid (∀W2 v,DS (mkE l) w1 W2 v 0 0 (.slice none 0 0) []->Cl 31 #[rdV v 0 s.size 0 (.slice none 0 0) 0 0] W2 (rB W2 (.bool (ruB (mkE l) 0)))):=fun W2 v hd=>zbt hd s.size 0 0 hE.z
 have z1:¬(65536:Int)<(s.size:Int):=by omega
 rw [hr] at HRu;obtain ⟨p1,hp1⟩:∃x,plA (mkE l) s.size 0=x:=⟨_,rfl⟩;rw [hp1];have HFl:Hid (∀W2 v,DS (mkE l) w1 W2 v 0 0 (.slice none 0 0) []->Cl 32 #[rdV v 0 s.size 0 (.slice none 0 0) 0 0,.int .i64 60] W2 (rB W2 (rdV v 0 s.size 0 (.slice none 0 0) p1 60))):=fun W2 v hd=>by
  have:=zbj hd s.size 0 0 60;rw [hp1] at this;exact this
 clear hw1 hs1 hE hl hr h65 hp1;go_enter Tryz.func14,Tryz.ntmps14;go_wp2_with (rw [HE1.out])
 refine (HX _).mono ?_;rintro e w2 ⟨⟨v,rfl,ho⟩,hb⟩;obtain ⟨A,ct,hv⟩:=zag ho;subst hv;obtain ⟨w3,hw3⟩:∃x,w2.alloc (rdO (.slice A l.length ct) 0 s.size 0 (.slice none 0 0) 0 0)=x:=⟨_,rfl⟩;have hb3:Below w2.heap.size w2 w3:=by rw [<-hw3];exact zaa _ _
 have HP3:=hO ((HP.later hb).later hb3);have HD3:Hid (DS (mkE l) w1 w3 (.slice A l.length ct) 0 0 (.slice none 0 0) []):=(DS.mk (E:=mkE l) hb ho (World.ownsRow_nil _ _ _ _) (Nat.zero_le _) (Nat.zero_le _)).later hb3;have HX3:Hid (DB w3 w2.heap.size (.slice A l.length ct) (.int .i64 0) (.int .i64 s.size) (.int .i64 0) (.slice none 0 0) (.int .i64 0) (.int .i64 0)):=by rw [<-hw3];exact ⟨heap_alloc_new w2 _⟩
 have HE3:=hO hw3;clear ho hb HX HE1 HP hb3 hw3;obtain ⟨k0,k1,k2,k3,k4,k5,k6⟩:=HX3.cl;go_wp2_with (rw [HE3.out])
 refine (HRu _ _ HD3.out).mono ?_;rintro e w4 ⟨rfl,hb⟩;have HP4:=hO (HP3.later hb);have HD4:=hO (HD3.later hb);have HX4:=hO (HX3.below hb);clear hb HRu HP3 HD3 HX3 HE3 k0 k1 k2 k3 k4 k5 k6;obtain ⟨k0,k1,k2,k3,k4,k5,k6⟩:=HX4.cl;go_wp2_with fail;refine (HFl _ _ HD4.out).mono ?_;rintro e w5 ⟨rfl,hb⟩;have fl5:=fld65;have HP5:=hO (HP4.later hb);clear hb HFl HP4 HD4 HX4 k0 k1 k2 k3 k4 k5 k6;have b0:=HP5.f.c0;have b1:=HP5.f.c1;have b2:=HP5.f.f0;have b3:=HP5.f.f1;go_wp2_with fail;have hF:=HP5.fin p1 60;refine zd0 rfl rfl rfl rfl hF.1 ?_;exact ⟨rfl,hF.2⟩
theorem zmC (s:ByteArray) (h65:¬65536<s.size) (w:World) (l:List Tk) (hl:zbi (zaN s) s=.inl l) (hr:ruB (mkE l) 0=false) (p:Int×Int) (hp:psR s=.inr p) (hp2:p.2≠0):Calls Tryz.prog 14 #[.string s] w (rB w (.tuple #[.slice none 0 0,.agg #[.int .i64 p.1,.int .i64 p.2]])):=by
 have HP:=hO (PF1.new w);obtain ⟨w1,hw1⟩:∃x,w.alloc fxZ=x:=⟨_,rfl⟩;rw [hw1] at HP;have HE1:=hO hw1;have hs1:w1.heap.size=w.heap.size+1:=by rw [<-hw1,sA]
 have hE:=zeF hl;have HX:Hid (∀W,Cl 17 #[.string s] W fun e w'=>(∃v,e=.returned (.tuple #[v,.int .i64 0,.int .i64 0])/\w'.ownsRow W.heap.size 79 9 v l.length (tkc l))/\Below W.heap.size W w'):=fun W=>by
  have:=zcb s (by omega) W;rw [hl] at this;exact this
 have HRu:Hid (∀W2 v,DS (mkE l) w1 W2 v 0 0 (.slice none 0 0) []->Cl 31 #[rdV v 0 s.size 0 (.slice none 0 0) 0 0] W2 (rB W2 (.bool (ruB (mkE l) 0)))):=fun W2 v hd=>zbt hd s.size 0 0 hE.z
 have z1:¬(65536:Int)<(s.size:Int):=by omega
 rw [hr] at HRu;have HPs:Hid (∀W,Cl 10 #[.string s] W (rB W (.tuple #[.agg #[.slice none 0 0],.agg #[.int .i64 p.1,.int .i64 p.2]]))):=fun W=>by
  have:=zfd s (by omega) W;rw [hp] at this;exact this
 have t1:(p.2 != 0)=true:=by simpa using hp2
 obtain ⟨p1,p2⟩:=p;dsimp only at *;clear hw1 hs1 hE hl hr h65 hp hp2;go_enter Tryz.func14,Tryz.ntmps14;go_wp2_with (rw [HE1.out])
 refine (HX _).mono ?_;rintro e w2 ⟨⟨v,rfl,ho⟩,hb⟩;obtain ⟨A,ct,hv⟩:=zag ho;subst hv;obtain ⟨w3,hw3⟩:∃x,w2.alloc (rdO (.slice A l.length ct) 0 s.size 0 (.slice none 0 0) 0 0)=x:=⟨_,rfl⟩;have hb3:Below w2.heap.size w2 w3:=by rw [<-hw3];exact zaa _ _
 have HP3:=hO ((HP.later hb).later hb3);have HD3:Hid (DS (mkE l) w1 w3 (.slice A l.length ct) 0 0 (.slice none 0 0) []):=(DS.mk (E:=mkE l) hb ho (World.ownsRow_nil _ _ _ _) (Nat.zero_le _) (Nat.zero_le _)).later hb3;have HX3:Hid (DB w3 w2.heap.size (.slice A l.length ct) (.int .i64 0) (.int .i64 s.size) (.int .i64 0) (.slice none 0 0) (.int .i64 0) (.int .i64 0)):=by rw [<-hw3];exact ⟨heap_alloc_new w2 _⟩
 have HE3:=hO hw3;clear ho hb HX HE1 HP hb3 hw3;obtain ⟨k0,k1,k2,k3,k4,k5,k6⟩:=HX3.cl;go_wp2_with (rw [HE3.out])
 refine (HRu _ _ HD3.out).mono ?_;rintro e w4 ⟨rfl,hb⟩;have HP4:=hO (HP3.later hb);have HD4:=hO (HD3.later hb);have HX4:=hO (HX3.below hb);clear hb HRu HP3 HD3 HX3 HE3 k0 k1 k2 k3 k4 k5 k6;go_wp2_with fail;refine (HPs _).mono ?_;rintro e w5 ⟨rfl,hb⟩;obtain ⟨w6,hw6⟩:∃x,(w5.alloc (.cells #[.slice none 0 0] 24)).alloc (.cells #[.int .i64 p1,.int .i64 p2] 27)=x:=⟨_,rfl⟩;have hb6:Below w5.heap.size w5 w6:=by rw [<-hw6];exact ((bR _ _).alloc (nL _) _).alloc (by rw [sA];omega) _
 have HP6:=hO ((HP4.later hb).later hb6);have HF6:Hid (FX w6 (w5.heap.size+1) p1 p2):=by rw [<-hw6];exact ⟨by have h:=heap_alloc_new (w5.alloc (.cells #[.slice none 0 0] 24)) (.cells #[.int .i64 p1,.int .i64 p2] 27);(try unfold rB at h);rw [sA] at h;exact h⟩
 have HE6:=hO hw6;have hlt5:=(HP4.later hb).f.lt;have n1:¬w5.heap.size+1=w.heap.size:=by omega
 have n2:¬w.heap.size=w5.heap.size+1:=by omega
 clear hb hb6 hw6 HPs HP4 HD4 HX4 hlt5;have x0:=HF6.c0;have x1:=HF6.c1;have b0:=HP6.f.c0;have b1:=HP6.f.c1;have b2:=HP6.f.f0;have b3:=HP6.f.f1;go_wp2_with (rw [HE6.out])
 go_region
 all_goals
  go_wp2_with fail;have hF:=HP6.fin p1 p2;refine zd0 rfl rfl rfl rfl (zhd hF.1) ?_;exact ⟨rfl,hF.2.drew⟩
theorem zo8 (s:ByteArray) (h65:¬65536<s.size) (w:World) (l:List Tk) (hl:zbi (zaN s) s=.inl l) (hr:ruB (mkE l) 0=false) (ns:List Nd) (hp:psR s=.inl [(⟨#[]⟩,ns)]):Calls Tryz.prog 14 #[.string s] w fun e w'=>PqV w' (.inl [(⟨#[]⟩,ns)]) e/\Below w.heap.size w w':=by
 have HP:=hO (PF1.new w);obtain ⟨w1,hw1⟩:∃x,w.alloc fxZ=x:=⟨_,rfl⟩;rw [hw1] at HP;have HE1:=hO hw1;have hs1:w1.heap.size=w.heap.size+1:=by rw [<-hw1,sA]
 have hE:=zeF hl;have HX:Hid (∀W,Cl 17 #[.string s] W fun e w'=>(∃v,e=.returned (.tuple #[v,.int .i64 0,.int .i64 0])/\w'.ownsRow W.heap.size 79 9 v l.length (tkc l))/\Below W.heap.size W w'):=fun W=>by
  have:=zcb s (by omega) W;rw [hl] at this;exact this
 have HRu:Hid (∀W2 v,DS (mkE l) w1 W2 v 0 0 (.slice none 0 0) []->Cl 31 #[rdV v 0 s.size 0 (.slice none 0 0) 0 0] W2 (rB W2 (.bool (ruB (mkE l) 0)))):=fun W2 v hd=>zbt hd s.size 0 0 hE.z
 have z1:¬(65536:Int)<(s.size:Int):=by omega
 rw [hr] at HRu;have HPs:Hid (∀W,Cl 10 #[.string s] W fun e w'=>(∃g A2 c2 c,e=.returned (.tuple #[.agg #[.slice (some ⟨g,0,none⟩) 1 c],.agg #[.int .i64 0,.int .i64 0]])/\g<w'.heap.size/\w'.cell? ⟨g,1,none⟩=some (.slice A2 ns.length c2)/\T.RdN w' A2 ns)/\Below W.heap.size W w'):=fun W=>by
  have:=zfd s (by omega) W;rw [hp] at this;refine this.mono ?_;rintro e w' ⟨⟨u,h1,A,c,h2,h3⟩,h4⟩;obtain ⟨b,A2,c2,h5,h6,_,h7,h8⟩:=h3 0 (⟨#[]⟩,ns) rfl;subst h5;exact ⟨⟨b,A2,c2,c,by rw [h1,h2];rfl,h6,by simpa using h7,h8⟩,h4⟩
 clear hw1 hE hl hr h65 hp;go_enter Tryz.func14,Tryz.ntmps14;go_wp2_with (rw [HE1.out])
 refine (HX _).mono ?_;rintro e w2 ⟨⟨v,rfl,ho⟩,hb⟩;obtain ⟨A,ct,hv⟩:=zag ho;subst hv;obtain ⟨w3,hw3⟩:∃x,w2.alloc (rdO (.slice A l.length ct) 0 s.size 0 (.slice none 0 0) 0 0)=x:=⟨_,rfl⟩;have hb3:Below w2.heap.size w2 w3:=by rw [<-hw3];exact zaa _ _
 have HP3:=hO ((HP.later hb).later hb3);have HD3:Hid (DS (mkE l) w1 w3 (.slice A l.length ct) 0 0 (.slice none 0 0) []):=(DS.mk (E:=mkE l) hb ho (World.ownsRow_nil _ _ _ _) (Nat.zero_le _) (Nat.zero_le _)).later hb3;have HX3:Hid (DB w3 w2.heap.size (.slice A l.length ct) (.int .i64 0) (.int .i64 s.size) (.int .i64 0) (.slice none 0 0) (.int .i64 0) (.int .i64 0)):=by rw [<-hw3];exact ⟨heap_alloc_new w2 _⟩
 have HE3:=hO hw3;clear ho hb HX HE1 HP hb3 hw3;obtain ⟨k0,k1,k2,k3,k4,k5,k6⟩:=HX3.cl;go_wp2_with (rw [HE3.out])
 refine (HRu _ _ HD3.out).mono ?_;rintro e w4 ⟨rfl,hb⟩;have HP4:=hO (HP3.later hb);have HD4:=hO (HD3.later hb);have HX4:=hO (HX3.below hb);clear hb HRu HP3 HD3 HX3 HE3 k0 k1 k2 k3 k4 k5 k6;go_wp2_with fail;refine (HPs _).mono ?_;rintro e w5 ⟨⟨g,A2,c2,c,rfl,hg,hc,hrd⟩,hb⟩;obtain ⟨w6,hw6⟩:∃x,(w5.alloc (.cells #[.slice (some ⟨g,0,none⟩) 1 c] 24)).alloc (.cells #[.int .i64 0,.int .i64 0] 27)=x:=⟨_,rfl⟩;have hb6:Below w5.heap.size w5 w6:=by rw [<-hw6];exact ((bR _ _).alloc (nL _) _).alloc (by rw [sA];omega) _
 have HP6:=hO ((HP4.later hb).later hb6);have HG6:Hid (GX w6 w5.heap.size (.slice (some ⟨g,0,none⟩) 1 c)):=by rw [<-hw6];exact (GX.mk (heap_alloc_new w5 _)).below (zaa _ _)
 have HF6:Hid (FX w6 (w5.heap.size+1) 0 0):=by rw [<-hw6];exact ⟨by have h:=heap_alloc_new (w5.alloc (.cells #[.slice (some ⟨g,0,none⟩) 1 c] 24)) (.cells #[.int .i64 0,.int .i64 0] 27);(try unfold rB at h);rw [sA] at h;exact h⟩
 have hc6:w6.cell? ⟨g,1,none⟩=some (.slice A2 ns.length c2):=(hb6.cell (p:=⟨g,1,none⟩) hg).trans hc;have HRd:Hid (T.RdN w6 A2 ns):=hrd.below hb6 (nL _);have HW6:Hid (w6=(w5.alloc (.cells #[.slice (some ⟨g,0,none⟩) 1 c] 24)).alloc (.cells #[.int .i64 0,.int .i64 0] 27)):=hw6.symm;clear hb hb6 hw6 HPs HP4 HD4 HX4 hg hc hrd;have x0:=HF6.c0;have x1:=HF6.c1;have g6:=HG6.cl;have b0:=HP6.f.c0;have b1:=HP6.f.c1;have b2:=HP6.f.f0;have b3:=HP6.f.f1;rw [HW6.out] at x0 x1 g6 hc6 b0 b1 b2 b3;go_wp2_with fail;have hF:=HP6.fin 0 0;have hRF:T.RdN (fxW w w6 0 0) A2 ns:=rd_fx HRd.out HP6.f (by simp [World.setCell]) fun j hj=>zkX hj
 rw [HW6.out] at hF hRF;refine zd0 rfl rfl rfl rfl hF.1 ?_;exact ⟨⟨ns,A2,c2,rfl,rfl,hRF⟩,hF.2⟩
theorem zmD (s:ByteArray) (hs:s.size<=140737488355000) (w:World):Calls Tryz.prog 14 #[.string s] w fun e w'=>PqV w' (paR s) e/\Below w.heap.size w w':=by
 by_cases h65:65536<s.size
 ·have:paR s=.inr (0,2):=by unfold paR zbi;rw [iP h65];rfl
  rw [this];exact zkY s h65 hs w
 ·cases hl:zbi (zaN s) s with
  | inr q =>
   have:paR s=.inr (q.1,q.2):=by unfold paR;rw [hl]
   rw [this];exact zmB s h65 w q hl
  | inl l =>
   have h1:paR s=fin (mkE l) s.size (alN (mkE l)):=by unfold paR;rw [hl]
   cases hr:ruB (mkE l) 0 with
   | true =>
    have h2:alN (mkE l)=.inr (0,60):=by unfold alN;rw [ru_ex hr]
    rw [h1,h2];exact zo7 s h65 w l hl hr
   | false =>
    have h2:psR s=paR s:=by unfold psR;rw [hl,h1];dsimp only;rw [zj6 (by rw [hr];decide)]
    cases hp:paR s with
    | inr p=>exact zmC s h65 w l hl hr p (h2.trans hp) (zoX hp).1
    | inl gs =>
     obtain ⟨_,ns,_,h3,_⟩:=zm4 hp;subst h3;exact zo8 s h65 w l hl hr ns (h2.trans hp)
def gsR (r:Sum (List (ByteArray×List Nd)) (Int×Int)):List (ByteArray×List Nd):=match r with
 | .inl gs=>gs
 | .inr _=>[]
def ptR (r:Sum (List (ByteArray×List Nd)) (Int×Int)):Int×Int:=match r with
 | .inl _=>(0,0)
 | .inr p=>p
def nsR (r:Sum (List (ByteArray×List Nd)) (Int×Int)):List Nd:=match gsR r with
 | []=>[]
 | g::_=>g.2
theorem PqV.u {w':World} {r:Sum (List (ByteArray×List Nd)) (Int×Int)} {e:Ending} (h:PqV w' r e):∃A c,e=.returned (.tuple #[.slice A (nsR r).length c,.agg #[.int .i64 (ptR r).1,.int .i64 (ptR r).2]])/\T.RdN w' A (nsR r):=by
 cases r with
 | inr p=>exact ⟨none,0,h,fun q=>absurd rfl q⟩
 | inl gs =>
  obtain ⟨ns,A,c,h1,h2,h3⟩:=h;subst h1;exact ⟨A,c,h2,h3⟩
theorem PaV.u {w w':World} {r:Sum (List (ByteArray×List Nd)) (Int×Int)} {e:Ending} (h:PaV w w' r e):∃A c,e=.returned (.tuple #[.slice A (nsR r).length c,.agg #[.int .i64 (ptR r).1,.int .i64 (ptR r).2]])/\T.RdN w' A (nsR r):=by
 cases r with
 | inr p=>exact ⟨none,0,h,fun q=>absurd rfl q⟩
 | inl gs =>
  obtain ⟨v,ns,h1,h2,h3⟩:=h;subst h1;obtain ⟨A,c,h4,h5⟩:=T.zhM h3 rfl;subst h4;exact ⟨A,c,h2,h5⟩
theorem zkZ (s:ByteArray) (hs2:s.size<=140737488355000) (w:World) (hg:GW w):Calls Tryz.prog 4 #[.string s] w (rB w (.bool true)):=by
 have HP:Hid (∀W,GW W->Cl 13 #[.string s] W fun e w'=>(∃A c,e=.returned (.tuple #[.slice A (nsR (paR s)).length c,.agg #[.int .i64 (ptR (paR s)).1,.int .i64 (ptR (paR s)).2]])/\T.RdN w' A (nsR (paR s)))/\Below W.heap.size W w'):=fun W hW=>(zhO s W hW).mono fun _ _ h=>⟨h.1.u,h.2⟩
 have HQ:Hid (∀W,Cl 14 #[.string s] W fun e w'=>(∃A c,e=.returned (.tuple #[.slice A (nsR (paR s)).length c,.agg #[.int .i64 (ptR (paR s)).1,.int .i64 (ptR (paR s)).2]])/\T.RdN w' A (nsR (paR s)))/\Below W.heap.size W w'):=fun W=>(zmD s hs2 W).mono fun _ _ h=>⟨h.1.u,h.2⟩
 have HL:Hid (∀W,GW W->Cl 11 #[] W (rB W (.bool true))):=fun W h=>zkP W h
 have hn:(nsR (paR s)).length<=2048:=by
  cases hr:paR s with
  | inr p=>exact Nat.zero_le _
  | inl gs =>
   obtain ⟨_,ns,_,h3,_,_,h4⟩:=zm4 hr;subst h3;exact h4
 have HS:Hid (∀W A1 A2 c1 c2,T.RdN W A1 (nsR (paR s))->T.RdN W A2 (nsR (paR s))->Cl 15 #[.slice A1 (nsR (paR s)).length c1,.slice A2 (nsR (paR s)).length c2] W (rB W (.bool true))):=fun W A1 A2 c1 c2 h3 h4=>(sameq A1 A2 c1 c2 _ (by omega) W h3 h4).mono fun e w' h=>⟨h.1,by obtain ⟨m,h5⟩:=h.2;rw [h5];exact T.below_drewN (bR _ _) _⟩
 have HG:Hid (GW w):=hg;have hfe:=zm5;generalize nsR (paR s)=ns at *;generalize (ptR (paR s)).1=p1 at *;generalize (ptR (paR s)).2=p2 at *;clear hg hs2 hn;go_enter Tryz.func4,Tryz.ntmps4;go_wp2_with fail;refine (HP _ HG.out).mono ?_;rintro e w3 ⟨⟨A3,c3,rfl,hr⟩,hb⟩;obtain ⟨w4,hw4⟩:∃x,w3.alloc (.cells #[.int .i64 p1,.int .i64 p2] 27)=x:=⟨_,rfl⟩;have HB4:=(show Hid (Below w.heap.size w w4/\FX w4 w3.heap.size p1 p2/\T.RdN w4 A3 ns) from by
  rw [<-hw4];exact ⟨hb.alloc hb.size _,⟨heap_alloc_new w3 _⟩,hr.below (zaa _ _) (nL _)⟩)
 have HE4:=hO hw4;clear hb HP hr hw4;go_wp2_with fail;rw [HE4.out];generalize w3.heap.size=k3 at *;refine (HQ _).mono ?_;rintro e w5 ⟨⟨A5,c5,rfl,hr⟩,hb⟩;obtain ⟨w6,hw6⟩:∃x,w5.alloc (.cells #[.int .i64 p1,.int .i64 p2] 27)=x:=⟨_,rfl⟩;have HB6:=(show Hid (Below w.heap.size w w6/\FX w6 k3 p1 p2/\T.RdN w6 A3 ns/\FX w6 w5.heap.size p1 p2/\T.RdN w6 A5 ns) from by
  have b1:Below w4.heap.size w4 w6:=by rw [<-hw6];exact hb.alloc hb.size _
  refine ⟨HB4.1.trans (b1.mono HB4.1.size),HB4.2.1.below b1,HB4.2.2.below b1 (nL _),?_⟩;rw [<-hw6];exact ⟨⟨heap_alloc_new w5 _⟩,hr.below (zaa _ _) (nL _)⟩)
 have HE6:=hO hw6;clear hb HQ hr hw6 HB4 HE4;go_wp2_with fail;rw [HE6.out];generalize w5.heap.size=k5 at *;refine (HL _ (HG.later HB6.1)).mono ?_;rintro e w7 ⟨rfl,hb⟩;have HB7:Hid (Below w.heap.size w w7/\FX w7 k3 p1 p2/\T.RdN w7 A3 ns/\FX w7 k5 p1 p2/\T.RdN w7 A5 ns):=⟨HB6.1.trans (hb.mono HB6.1.size),HB6.2.1.below hb,HB6.2.2.1.below hb (nL _),HB6.2.2.2.1.below hb,HB6.2.2.2.2.below hb (nL _)⟩;clear hb HB6 HL HE6;have c1:=HB7.2.1.c0;have c2:=HB7.2.1.c1;have c3':=HB7.2.2.2.1.c0;have c4:=HB7.2.2.2.1.c1;go_wp2_with fail;refine (HS _ _ _ _ _ HB7.2.2.1 HB7.2.2.2.2).mono ?_;rintro e w8 ⟨rfl,hb⟩;have HB8:Hid (Below w.heap.size w w8):=HB7.1.trans (hb.mono HB7.1.size);clear hb HB7 HS c1 c2 c3' c4;go_wp2_with fail;go_ret
 exact ⟨rfl,HB8.out⟩
end Go.Proofs.YtkihfkcmcdiajaaGreatDoor.N
namespace Go.Proofs.YtkihfkcmcdiajaaGreatDoor
open Go.ChangeShapes Go.WideShapes Go.ChangeAt Go.RowKit
open Go.ChangeMaps (open_string shut_string)
theorem zcC (H:Type) (enc:TypeId×Value->H) (W:World) (base:Nat) (args:Array Value) (ds gs:List (DataW H)) (before:List MemPlace)
  (hval0:∀(j:Nat) t v,Tryz.f4.params[j]?=some t->args[j]?=some v->Value.okWide Tryz.prog W .any base t v)
  (hW:DataW.Whole enc Tryz.prog Tryz.f4.params.toList Rows.notationAloneSpec.vars false W args.toList ds gs before) (hvb:N.GW W)
  (hsz:(DataW.weightsEach Tryz.prog (Tryz.f4.params.toList++(OpenSpec.ofChange Rows.notationAloneSpec).bare.plain.varTypes Tryz.prog) (ds++gs)).all (·<=reachBytes)=true) :
  Calls Tryz.prog 4 args W fun e W'=>∃v,e=.returned v/\Rows.notationAloneSpec.post enc Tryz.prog Tryz.f4 false true false false W args v W':=by
 have hval:∀(j:Nat) t v,Tryz.f4.params[j]?=some t->args[j]?=some v->Value.okWide Tryz.prog W .any base t v:=hval0;have hW':=hW;obtain ⟨p,q,hA0,hV,rfl,hfz,hnd⟩:=hW;have hA:DataW.TrodAll enc Tryz.prog W 0 (fun _=>true) true Tryz.f4.params.toList args.toList ds p:=hA0;rw [Tryz.params4] at hA hval hsz;obtain ⟨v1,d1,rfl,rfl,h1⟩:=trodAll_one hA;obtain ⟨rfl,rfl⟩:=trodVars_none hV;obtain ⟨s1,rfl,rfl,rfl,hs1⟩:=open_string Tryz.underlying9 (hval 0 9 v1 rfl rfl) h1;clear hA0 hval0;have hb:s1.size<=140737488355000:=by
  have h:=sized_string hsz (j:=0) rfl rfl;have e:s1.data.toList.length=s1.size:=rfl;have r:reachBytes<=140737488355000:=by decide
  omega
 refine (N.zkZ s1 hb W hvb).mono fun e W' ⟨he,bel⟩=>?_
 subst he;exact ⟨_,rfl,_,_,_,[],_,[],hW',trodAll_mk1 (shut_bool Tryz.underlying4 _),(trodAll_cons_mk (shut_string Tryz.underlying9 hs1) trodAll_mk0),rfl,bel.frame _,fun h=>by cases h⟩
theorem zdT (os:Os):laidMet Tryz.prog Rows.notationAloneRow.laid ((zko (World.holding Tryz.prog os ⟨#[],#[],[]⟩)).forCall (fun _ _=>0) ⟨#[],#[.string ByteArray.empty],[]⟩).memory :=
 laidMet_of_run' 8 (by kernel_rfl) (by kernel_rfl)
theorem zdg (os:Os) {H:Type} (enc:TypeId×Value->H):∃places,DataW.whole enc Tryz.prog ((zko (World.holding Tryz.prog os ⟨#[],#[],[]⟩)).forCall (fun _ _=>0) ⟨#[],#[.string ByteArray.empty],[]⟩).memory Tryz.f4.params.toList Rows.notationAloneSpec.vars false (#[.string ByteArray.empty]:Array Value).toList 8=some ([.lit (.string [])],[],places) :=
 ⟨[],by kernel_rfl⟩
theorem zc1 (os:Os) (started:os.Started) (H:Type) (enc:TypeId×Value->H) (F:Stop.Interp) :
  ReturnsInHanded {} Tryz.checked os 4 .any ((OpenSpec.ofChange Rows.notationAloneSpec).preRow enc Tryz.prog Tryz.f4 Rows.notationAloneRow.domain false Rows.notationAloneRow.laid) (((OpenSpec.ofChange Rows.notationAloneSpec).at F).post enc Tryz.prog Tryz.f4 false true false false):=by
 obtain ⟨places,hx⟩:=zdg os enc;refine returnsInHanded_of_row (C:=Tryz.checked) (s:=OpenSpec.ofChange Rows.notationAloneSpec) own started (by kernel_rfl) Tryz.func4
  (witness_row_at (enc:=enc) (C:=Tryz.checked) false (zko (World.holding Tryz.prog os ⟨#[],#[],[]⟩)) #[.string ByteArray.empty] rfl (by kernel_rfl) (by kernel_rfl) (by kernel_rfl)
   (OpenSpec.preRow_of_cond 8 hx (by kernel_rfl) (fun k hk=>by cases hk) (by kernel_rfl) (zdT os))) ?_
 intro W base args ds gs before hval hW _ hcond hsz hL _ _;exact zcC H enc W base args ds gs before hval hW (zin hL) hsz
theorem zdU:Rows.NotationAloneSaid :=
 OpenClaim.holds_of_cond 4 Tryz.f4 rfl rfl rfl rfl rfl rfl rfl ⟨rfl,rfl,rfl,rfl,rfl⟩ rfl rfl rfl rfl rfl (by kernel_rfl) Tryz.func4 (by kernel_rfl)
  (of_decide_eq_true (by kernel_rfl)) (by unfold Func.isWrapper;first | (rw [iP (by decide +kernel)];kernel_rfl) | (rw [iN (by decide +kernel)];exact ⟨rfl,rfl⟩))
  (fun os started H enc _ F=>by rw [OpenClaim.pre_eq_preRow];exact zc1 os started H enc F)
theorem zdh (f : FuncId) (fn : Func) (hf : Tryz.pinned.checked.prog.funcNamed "harrow/harrowlaw06.NotationAlone" = some f) (hfn : Tryz.pinned.checked.prog.funcs[f]? = some fn) :
  true=Tryz.pinned.checked.prog.looks []/\∀(j:Nat) t,fn.params[j]?=some t->Tryz.pinned.checked.prog.wantsStandIn t=false:=by
 obtain rfl : f = 4 := Option.some.inj ((show Tryz.prog.funcNamed "harrow/harrowlaw06.NotationAlone" = some 4 by kernel_rfl).symm.trans hf) |>.symm
 obtain rfl:fn=Tryz.f4:=(Option.some.inj (Tryz.func4.symm.trans hfn)).symm;refine ⟨by kernel_rfl,fun j t ht=>?_⟩;rw [Tryz.params4] at ht;have hm:t∈[9]:=by simpa using Array.mem_of_getElem? ht
 have hall:([9].all fun u=>!Tryz.prog.wantsStandIn u)=true:=by kernel_rfl
 exact (show Tryz.prog.wantsStandIn t=false by simpa using List.all_eq_true.1 hall t hm)
theorem notationAlone_holds:Rows.NotationAloneCardSaid :=
 Claim7.holds_tied_plain_at .later [] _ _ _ _ zdU (fun _ h=>by cases h) (by kernel_rfl) (fun _ h=>by cases h) notationAlone_row_tie rfl ⟨rfl,rfl⟩ (by kernel_rfl) rfl zdh (by kernel_rfl)
end Go.Proofs.YtkihfkcmcdiajaaGreatDoor
