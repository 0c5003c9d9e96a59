/- DERIVED. Plain mathematics and walks, laid together (2). -/
import Derived.WalkKit
import Derived.ProofKit
import Derived.BigQuiet
import Derived.Lib.AtoiErrMem
import Derived.Test.YtkihfkcmcdiajaaGreatDoorPr01
set_option maxRecDepth 100000
set_option maxHeartbeats 8000000
namespace Go.Proofs.YtkihfkcmcdiajaaGreatDoor
open Go.RowKit
def dgB (c:Int):Bool:=decide (48<=c)&&decide (c<=57)
def hdB (c:Int):Bool:=(decide (97<=c)&&decide (c<=122))||(decide (65<=c)&&decide (c<=90))||c==95
def nmB (c:Int):Bool:=hdB c||dgB c
def spGo (P:Int->Bool) (s:ByteArray):Nat->Nat->Nat
 | 0,i=>i
 | m+1,i=>if P (chr s i) then spGo P s m (i+1) else i
def spN (P:Int->Bool) (s:ByteArray) (i:Nat):Nat:=spGo P s (s.size - i) i
theorem zbm {P:Int->Bool} {s:ByteArray} {i:Nat} (h:P (chr s i)=false):spN P s i=i:=by
 unfold spN
 cases s.size - i with
 | zero=>rfl
 | succ m=>rw [spGo,h];rfl
theorem za7 {P:Int->Bool} {s:ByteArray} {i:Nat} (hn:P (-1)=false) (h:P (chr s i)=true):i<s.size/\spN P s i=spN P s (i+1):=by
 have hi:i<s.size:=by
  by_cases q:i<s.size
  ·exact q
  ·rw [zau (by omega),hn] at h;cases h
 refine ⟨hi,?_⟩;unfold spN;rw [show s.size - i=(s.size - (i+1))+1 from by omega,spGo,h];rfl
theorem zbW (P:Int->Bool) (s:ByteArray) (hn:P (-1)=false):∀d i,s.size - i=d->i<=spN P s i/\(i<=s.size->spN P s i<=s.size)/\P (chr s (spN P s i))=false/\∀k,i<=k->k<spN P s i->P (chr s k)=true:=by
 intro d
 induction d with
 | zero =>
  intro i hi;have h:P (chr s i)=false:=by rw [zau (by omega)];exact hn
  rw [zbm h];exact ⟨nL _,fun q=>q,h,fun k h1 h2=>by omega⟩
 | succ d ih =>
  intro i hi
  cases h:P (chr s i) with
  | false=>rw [zbm h];exact ⟨nL _,fun q=>q,h,fun k h1 h2=>by omega⟩
  | true =>
   obtain ⟨h1,h2⟩:=za7 hn h;obtain ⟨i1,i2,i3,i4⟩:=ih (i+1) (by omega);rw [h2];refine ⟨by omega,fun _=>i2 (by omega),i3,fun k k1 k2=>?_⟩;by_cases e:k=i
   ·subst e;exact h
   ·exact i4 k (by omega) k2
theorem zbd (P:Int->Bool) (s:ByteArray) (hn:P (-1)=false) (i:Nat):i<=spN P s i:=(zbW P s hn _ i rfl).1
theorem zbD (P:Int->Bool) (s:ByteArray) (hn:P (-1)=false) (i:Nat) (h:i<=s.size):spN P s i<=s.size:=(zbW P s hn _ i rfl).2.1 h
def zaF (s:ByteArray) (i:Nat) (base:Int):Nat->Int
 | 0=>0
 | k+1=>zaF s i base k * base+zaI (chr s (i+k))
theorem zi0 (s:ByteArray) (i:Nat) (base:Int) (hb:0<=base/\base<=16):∀k,-(16 ^ k:Int)<=zaF s i base k - 1/\zaF s i base k+1<=(16 ^ k:Int):=by
 intro k
 induction k with
 | zero=>simp [zaF]
 | succ k ih =>
  have h:=zbh (chr s (i+k));have h16:(16:Int) ^ (k+1)=16 ^ k * 16:=by rw [Int.pow_succ]
  rw [zaF,h16];generalize zaF s i base k=x at *;generalize (16:Int) ^ k=p at *;have hp:(1:Int)<=p:=by omega
  constructor
  ·by_cases hx:0<=x
   ·have:0<=x * base:=Int.mul_nonneg hx hb.1
    omega
   ·have h1:x * base ≥ x * 16:=by
     have:(-x) * base<=(-x) * 16:=Int.mul_le_mul_of_nonneg_left hb.2 (by omega);rw [Int.neg_mul,Int.neg_mul] at this;omega
    omega
  ·by_cases hx:0<=x
   ·have h1:x * base<=x * 16:=Int.mul_le_mul_of_nonneg_left hb.2 hx
    omega
   ·have h1:x * base<=0:=by
     have:0<=(-x) * base:=Int.mul_nonneg (by omega) hb.1;rw [Int.neg_mul] at this;omega
    omega
theorem zgz {s:ByteArray} {a b k:Nat} (h:a+k<b) (hb:b<=s.size):chr (s.extract a b) k=chr s (a+k):=by
 have h1:k<(s.extract a b).size:=by rw [ByteArray.size_extract];omega
 rw [zam h1,zam (show a+k<s.size by omega)]
 congr 2
 exact ByteArray.getElem_extract h1
theorem zcq {s:ByteArray} {a b:Nat} {base:Int} (hb:b<=s.size):∀k,a+k<=b->zaF (s.extract a b) 0 base k=zaF s a base k:=by
 intro k
 induction k with
 | zero=>intro _;rfl
 | succ k ih =>
  intro h;rw [zaF,zaF,ih (by omega),Nat.zero_add,zgz (by omega) hb]
def zbQ (s:ByteArray) (i:Nat) (most:Int):Sum Int Int :=
 if spN dgB s i - i=0∨(1<spN dgB s i - i/\chr s i=48) then .inr 50
 else if 6<spN dgB s i - i∨most<zaF s i 10 (spN dgB s i - i) then .inr 1
 else .inl (zaF s i 10 (spN dgB s i - i))
structure Tk where
 kd:Int
 nn:Int
 fr:Int
 en:Int
 tx:ByteArray
 s0:Int
 s1:Int
 s2:Int
 s3:Int
abbrev tkG (t:Tk):Value:=.agg #[.int .i64 t.kd,.int .i64 t.nn,.int .i64 t.fr,.int .i64 t.en,.string t.tx,.int .u64 t.s0,.int .u64 t.s1,.int .u64 t.s2,.int .u64 t.s3]
def tk0:Tk:=⟨0,0,0,0,⟨#[]⟩,0,0,0,0⟩
def zcA (s:ByteArray) (i:Nat):Option (Nat×Nat) :=
 if chr s (i+1)=110 then some (10,i+2) else if chr s (i+1)=114 then some (13,i+2) else if chr s (i+1)=116 then some (9,i+2)
 else if chr s (i+1)=92∨chr s (i+1)=39∨chr s (i+1)=34 then some ((chr s (i+1)).toNat,i+2)
 else if chr s (i+1)=120/\0<=zaI (chr s (i+2))/\0<=zaI (chr s (i+3)) then some ((16 * zaI (chr s (i+2))+zaI (chr s (i+3))).toNat,i+4)
 else none
def zbL (s:ByteArray) (q:Int) (b:Nat):Nat->List Int->Nat->Sum Tk (Nat×Int)
 | 0,_,_=>.inr (b,52)
 | f+1,out,i =>
  if chr s i<0 then .inr (b,52) else if chr s i=q then (if 255<out.length then .inr (b,2) else .inl ⟨2,0,b,i+1,zat out,0,0,0,0⟩)
  else if chr s i<32∨chr s i=127 then .inr (i,50) else if chr s i≠92 then zbL s q b f (out++[chr s i]) (i+1)
  else match zcA s i with
   | none=>.inr (i,51)
   | some (c,n)=>zbL s q b f (out++[(c:Int)]) n
def zbX (s:ByteArray) (b:Nat):Sum Tk (Nat×Int):=zbL s (chr s b) b (s.size+1) [] (b+1)
def hx7 (s:ByteArray) (i:Nat):Nat->Nat
 | 0=>i
 | k+1=>if 0<=zaI (chr s i) then hx7 s (i+1) k else i
def zbT (s:ByteArray) (i:Nat):Nat:=hx7 s i 7
def zbY (s:ByteArray) (b:Nat):Sum Tk (Nat×Int) :=
 let f1:=b+3
 let e1:=zbT s f1
 let f2:=if chr s e1=45 then e1+1 else f1
 let e2:=if chr s e1=45 then zbT s (e1+1) else e1
 if e1=f1∨f1+6<e1∨e2=f2∨f2+6<e2∨chr s e2≠125 then .inr (b,30)
 else if zaF s f2 16 (e2 - f2)<zaF s f1 16 (e1 - f1)∨1114111<zaF s f2 16 (e2 - f2) then .inr (b,30)
 else .inl ⟨5,zaF s f1 16 (e1 - f1),b,e2+1,⟨#[]⟩,zaF s f2 16 (e2 - f2),0,0,0⟩
def zdE (s:ByteArray) (b:Nat):Sum Tk (Nat×Int) :=
 if chr s (b+1)=117/\chr s (b+2)=123 then zbY s b else if chr s (b+1)=101 then .inl ⟨29,0,b,b+2,⟨#[]⟩,0,0,0,0⟩ else if chr s (b+1)=102 then .inl ⟨30,0,b,b+2,⟨#[]⟩,0,0,0,0⟩
 else if 0<=chr s (b+1)/\(cls (chr s (b+1)).toNat).2=0 then .inl ⟨28,0,b,b+2,s.extract (b+1) (b+2),wd (cls (chr s (b+1)).toNat).1 0,wd (cls (chr s (b+1)).toNat).1 1,wd (cls (chr s (b+1)).toNat).1 2,wd (cls (chr s (b+1)).toNat).1 3⟩ else .inr (b,10)
def zd8 (s:ByteArray) (b:Nat):Sum Tk (Nat×Int) :=
 let k:Int:=if chr s (b+1)=43 then 14 else if chr s (b+1)=45 then 15 else 13
 let f:=if chr s (b+1)=43∨chr s (b+1)=45 then b+2 else b+1
 match zbQ s f 50 with
 | .inr e=>.inr (b,e)
 | .inl n=>.inl ⟨k,n,b,spN dgB s f,⟨#[]⟩,0,0,0,0⟩
def ze5 (s:ByteArray) (b:Nat):Sum Tk (Nat×Int) :=
 if hdB (chr s (b+2))=true/\chr s (spN nmB s (b+2))=58 then
  (if 32<spN nmB s (b+2) - b - 2 then .inr (b+2,2) else .inl ⟨21,0,b,spN nmB s (b+2)+1,s.extract (b+2) (spN nmB s (b+2)),0,0,0,0⟩)
 else .inl ⟨21,0,b,b+2,⟨#[]⟩,0,0,0,0⟩
end Go.Proofs.YtkihfkcmcdiajaaGreatDoor
namespace Go.Proofs.YtkihfkcmcdiajaaGreatDoor.T
open Go.RowKit
def dgB (c:Int):Bool:=decide (48<=c)&&decide (c<=57)
def ltB (c:Int):Bool:=(decide (97<=c)&&decide (c<=122))||(decide (65<=c)&&decide (c<=90))
def nmC (c:Int):Bool:=dgB c||ltB c||c==95
def NmP (s:ByteArray):Prop:=0<s.size/\s.size<=32/\(∀h:0<s.size,dgB (s[0].toNat:Int)=false)/\∀(j:Nat) (h:j<s.size),nmC (s[j].toNat:Int)=true
def decNm (s:ByteArray):Decidable (NmP s):=by unfold NmP;exact inferInstance
def nmB (s:ByteArray):Bool:=@decide (NmP s) (decNm s)
theorem nmB_t {s:ByteArray} (h:NmP s):nmB s=true:=by unfold nmB;exact @decide_eq_true _ (decNm _) h
theorem zfW {s:ByteArray} (h:¬NmP s):nmB s=false:=by unfold nmB;exact @dF _ (decNm _) h
def zd9 (s:ByteArray):Nat->Nat->Bool
 | 0,_=>true
 | m+1,i=>if h:i<s.size then (if (s[i].toNat:Int)=37 then (if h2:i+1<s.size then (if (s[i+1].toNat:Int)=37∨dgB (s[i+1].toNat:Int)=true then zd9 s m (i+2) else false) else false) else zd9 s m (i+1)) else true
def tmB (s:ByteArray):Bool:=if s.size<=255 then zd9 s s.size 0 else false
structure Nd where
 op:Int
 nn:Int
 tx:ByteArray
 s0:Int
 s1:Int
 s2:Int
 s3:Int
def ar (op:Int):Int:=if op<1∨23<op then -1 else if op<=6∨op=17 then 0 else if op=7∨op=8 then 2 else 1
theorem ar_hi (op:Int):ar op<=2:=by
 unfold ar;split
 ·omega
 ·split
  ·omega
  ·split <;> omega
def txF (op:Int) (tx:ByteArray):Bool:=if op=4 then decide (1<=tx.size/\tx.size<=255) else if op=6 then nmB tx else if op=19 then decide (tx.size=0)||nmB tx else if op=22 then tmB tx else decide (tx.size=0)
def nuF (op nn:Int):Bool:=if op=14∨op=15∨op=16∨op=23 then decide (0<=nn/\nn<=50) else decide (nn=0)
def seF (op a b c d:Int):Bool:=if op=5 then true else decide (a=0/\b=0/\c=0/\d=0)
def fdF (n:Nd):Bool:=txF n.op n.tx&&nuF n.op n.nn&&seF n.op n.s0 n.s1 n.s2 n.s3
def alE (n:Nd):Int:=if ar n.op<0 then 40 else if fdF n then 0 else 41
abbrev ndG (n:Nd):Value:=.agg #[.int .i64 n.op,.int .i64 n.nn,.string n.tx,.int .u64 n.s0,.int .u64 n.s1,.int .u64 n.s2,.int .u64 n.s3]
def ndV (n:Nd):List Value:=[.int .i64 n.op,.int .i64 n.nn,.string n.tx,.int .u64 n.s0,.int .u64 n.s1,.int .u64 n.s2,.int .u64 n.s3]
def ndc (l:List Nd):List Value:=l.flatMap ndV
theorem zcf (a b:List Nd):ndc (a++b)=ndc a++ndc b:=List.flatMap_append
theorem zdO (n:Nd):ndc [n]=ndV n:=by unfold ndc;rw [List.flatMap_cons,List.flatMap_nil,List.append_nil]
theorem zgA (l:List Nd):(ndc l).length=l.length * 7:=by
 induction l with
 | nil=>rfl
 | cons a l ih=>show (ndV a++ndc l).length=_;rw [lA,ih,List.length_cons];show 7+_=_;omega
theorem zeq {s:ByteArray} (h:s.size=0):s.toList.isEmpty=true:=by
 obtain ⟨d⟩:=s;have h2:d.size=0:=h;rw [ByteArray.toList_eq,Array.eq_empty_of_size_eq_zero h2];rfl
theorem zdP {s:ByteArray} (h:¬s.size=0):s.toList.isEmpty=false:=by
 obtain ⟨d⟩:=s;have h2:¬d.toList.length=0:=h;rw [ByteArray.toList_eq]
 show d.toList.isEmpty=false
 cases hd:d.toList with
 | nil=>rw [hd] at h2;exact absurd rfl h2
 | cons a b=>rfl
theorem zaD {a b:Bool} (h:a=b):Ending.returned (.bool a)=.returned (.bool b):=by rw [h]
end Go.Proofs.YtkihfkcmcdiajaaGreatDoor.T
namespace Go.Proofs.YtkihfkcmcdiajaaGreatDoor.N
open Go.RowKit
abbrev Nd:=T.Nd
def nd0 (op:Int):Nd:=⟨op,0,⟨#[]⟩,0,0,0,0⟩
structure PE where
 l:List Tk
 rn:Int->Int->List Nd
 tm:ByteArray->Bool
def kdA (E:PE) (i:Nat):Int:=match E.l[i]? with
 | some t=>t.kd
 | none=>0
def tkA (E:PE) (i:Nat):Tk:=(E.l[i]?).getD tk0
def bgK (k:Int):Bool:=k==8||k==9||k==2||k==3||k==28||k==5||k==18||k==29||k==30||k==16||k==19||k==21||k==23||k==25
def bgn (E:PE) (i:Nat):Bool:=bgK (kdA E i)||(kdA E i==1&&!(kdA E (i+1)==6))
abbrev PR:=Sum (Nat×List Nd) (Nat×Int)
def bnd (r:PR) (f:Nat->List Nd->PR):PR:=match r with
 | .inl p=>f p.1 p.2
 | .inr q=>.inr q
def ahd (ns:List Nd) (r:PR):PR:=match r with
 | .inl p=>.inl (p.1,ns++p.2)
 | .inr q=>.inr q
def zi1 (tm:ByteArray->Bool) (t u:Tk) (k k2:Int):Sum (Nd×Nat) (Option Int) :=
  if k=10 then .inl (nd0 11,1) else if k=11 then .inl (nd0 9,1) else if k=12 then .inl (nd0 10,1)
  else if k=13 then .inl (⟨14,t.nn,⟨#[]⟩,0,0,0,0⟩,1) else if k=14 then .inl (⟨15,t.nn,⟨#[]⟩,0,0,0,0⟩,1)
  else if k=15 then .inl (⟨16,t.nn,⟨#[]⟩,0,0,0,0⟩,1)
  else if k=27 then
    (if k2=2 then (if tm u.tx then .inl (⟨22,0,u.tx,0,0,0,0⟩,2) else .inr (some 61))
     else if k2=4 then (if 50<u.nn then .inr (some 1) else .inl (⟨23,u.nn,⟨#[]⟩,0,0,0,0⟩,2))
     else .inr (some 60))
  else .inr none
def zgB (E:PE) (i:Nat):Sum (Nd×Nat) (Option Int):=zi1 E.tm (tkA E i) (tkA E (i+1)) (kdA E i) (kdA E (i+1))
def zbZ (rn:Int->Int->List Nd) (t:Tk) (k2:Int):Sum (List Nd×Nat) (Int×List Nd) :=
 if t.kd=2 then .inl (if t.tx.size=0 then [nd0 1] else [⟨4,0,t.tx,0,0,0,0⟩],1)
 else if t.kd=3∨t.kd=28 then .inl ([⟨5,0,⟨#[]⟩,t.s0,t.s1,t.s2,t.s3⟩],1)
 else if t.kd=5 then .inl (rn t.nn t.s0,1)
 else if t.kd=18 then .inl ([nd0 3],1) else if t.kd=29 then .inl ([nd0 1],1) else if t.kd=30 then .inl ([nd0 2],1)
 else if t.kd=1 then .inl ([⟨6,0,t.tx,0,0,0,0⟩],1)
 else if t.kd=16 then .inr (17,[])
 else if t.kd=19 then (if k2=20 then .inl ([nd0 17],2) else .inr (20,[nd0 18]))
 else if t.kd=21 then .inr (22,[⟨19,0,t.tx,0,0,0,0⟩])
 else if t.kd=23 then .inr (24,[nd0 20]) else .inr (26,[nd0 21])
def zbu (E:PE) (i:Nat):Sum (List Nd×Nat) (Int×List Nd):=zbZ E.rn (tkA E i) (kdA E (i+1))
def PF (E:PE):Nat->Nat->Nat->Nat->PR
  | 0,_,_,_=>.inr (0,-1)
  | f+1,m,i,d =>
    if m=0 then bnd (PF E f 2 i d) fun a ns=>ahd ns (PF E f 1 a d)
    else if m=1 then (if kdA E i=7 then bnd (PF E f 2 (i+1) d) fun a ns=>ahd (ns++[nd0 8]) (PF E f 1 a d) else .inl (i,[]))
    else if m=2 then bnd (PF E f 4 i d) fun a ns=>ahd ns (PF E f 3 a d)
    else if m=3 then (if bgn E i=true then bnd (PF E f 4 i d) fun a ns=>ahd (ns++[nd0 7]) (PF E f 3 a d) else .inl (i,[]))
    else if m=4 then
      (if bgn E i=true then
        (if kdA E i=8∨kdA E i=9 then (if 240<=d then .inr (i,4) else bnd (PF E f 4 (i+1) (d+1)) fun a ns=>.inl (a,ns++[nd0 (if kdA E i=8 then 12 else 13)]))
         else bnd (PF E f 5 i d) fun a ns=>ahd ns (PF E f 6 a d))
       else .inr (i,60))
    else if m=5 then
      (match zbu E i with
       | .inl p=>.inl (i+p.2,p.1)
       | .inr p=>if 240<=d then .inr (i,4) else bnd (PF E f 0 (i+1) (d+1)) fun a ms=>if kdA E a=p.1 then .inl (a+1,ms++p.2) else .inr (a,60))
    else (match zgB E i with
       | .inr none=>.inl (i,[])
       | .inr (some c)=>.inr (i+1,c)
       | .inl p=>ahd [p.1] (PF E f 6 (i+p.2) d))
theorem za8 {E:PE} {i:Nat} (h:¬kdA E i=0):i<E.l.length:=by
 unfold kdA at h;by_cases q:i<E.l.length
 ·exact q
 ·rw [List.getElem?_eq_none (by omega)] at h;exact absurd rfl h
theorem zc6 {E:PE} {i:Nat} (h:bgn E i=true):i<E.l.length:=by
 apply za8
 intro q;unfold bgn bgK at h;rw [q] at h;simp at h
theorem zaN {r:PR} {f:Nat->List Nd->PR} {x:Nat×List Nd} (h:bnd r f=.inl x):∃a ns,r=.inl (a,ns)/\f a ns=.inl x:=by
 cases r with
 | inl p=>exact ⟨p.1,p.2,rfl,h⟩
 | inr q=>cases h
theorem zaZ {ns:List Nd} {r:PR} {x:Nat×List Nd} (h:ahd ns r=.inl x):∃ms,r=.inl (x.1,ms)/\x.2=ns++ms:=by
 cases r with
 | inl p=>cases h;exact ⟨p.2,rfl,rfl⟩
 | inr q=>cases h
theorem sufK_n {tm:ByteArray->Bool} {t u:Tk} {k k2:Int} {p:Nd×Nat} (h:zi1 tm t u k k2=.inl p):(p.2=1/\¬k=0)∨(p.2=2/\¬k2=0):=by
 unfold zi1 at h;by_cases h0:k=10
 ·rw [iP h0] at h;cases h;exact .inl ⟨rfl,by omega⟩
 rw [iN h0] at h;by_cases h1:k=11
 ·rw [iP h1] at h;cases h;exact .inl ⟨rfl,by omega⟩
 rw [iN h1] at h;by_cases h2:k=12
 ·rw [iP h2] at h;cases h;exact .inl ⟨rfl,by omega⟩
 rw [iN h2] at h;by_cases h3:k=13
 ·rw [iP h3] at h;cases h;exact .inl ⟨rfl,by omega⟩
 rw [iN h3] at h;by_cases h4:k=14
 ·rw [iP h4] at h;cases h;exact .inl ⟨rfl,by omega⟩
 rw [iN h4] at h;by_cases h5:k=15
 ·rw [iP h5] at h;cases h;exact .inl ⟨rfl,by omega⟩
 rw [iN h5] at h;by_cases h7:k=27
 ·rw [iP h7] at h
  by_cases h8:k2=2
  ·rw [iP h8] at h
   split at h
   ·cases h;exact .inr ⟨rfl,by omega⟩
   ·cases h
  ·rw [iN h8] at h
   by_cases h9:k2=4
   ·rw [iP h9] at h
    split at h
    ·cases h
    ·cases h;exact .inr ⟨rfl,by omega⟩
   ·rw [iN h9] at h;cases h
 ·rw [iN h7] at h;cases h
theorem zhr {E:PE} {i:Nat} {p:Nd×Nat} (h:zgB E i=.inl p):0<p.2/\i+p.2<=E.l.length:=by
 rcases sufK_n h with ⟨h1,h2⟩ | ⟨h1,h2⟩
 ·have:=za8 h2;omega
 ·have:=za8 h2;omega
theorem znv {rn:Int->Int->List Nd} {t:Tk} {k2:Int} {p:List Nd×Nat} (h:zbZ rn t k2=.inl p):p.2=1∨(p.2=2/\k2=20):=by
 unfold zbZ at h;by_cases c0:t.kd=2
 ·rw [iP c0] at h
  cases h;exact .inl rfl
 rw [iN c0] at h;by_cases c1:t.kd=3∨t.kd=28
 ·rw [iP c1] at h
  cases h;exact .inl rfl
 rw [iN c1] at h;by_cases c2:t.kd=5
 ·rw [iP c2] at h
  cases h;exact .inl rfl
 rw [iN c2] at h;by_cases c3:t.kd=18
 ·rw [iP c3] at h
  cases h;exact .inl rfl
 rw [iN c3] at h;by_cases c4:t.kd=29
 ·rw [iP c4] at h
  cases h;exact .inl rfl
 rw [iN c4] at h;by_cases c5:t.kd=30
 ·rw [iP c5] at h
  cases h;exact .inl rfl
 rw [iN c5] at h;by_cases c6:t.kd=1
 ·rw [iP c6] at h
  cases h;exact .inl rfl
 rw [iN c6] at h;by_cases c7:t.kd=16
 ·rw [iP c7] at h
  cases h
 rw [iN c7] at h;by_cases c8:t.kd=19
 ·rw [iP c8] at h
  by_cases d:k2=20
  ·rw [iP d] at h
   cases h;exact .inr ⟨rfl,d⟩
  ·rw [iN d] at h
   cases h
 rw [iN c8] at h;by_cases c9:t.kd=21
 ·rw [iP c9] at h
  cases h
 rw [iN c9] at h;by_cases c10:t.kd=23
 ·rw [iP c10] at h
  cases h
 rw [iN c10] at h
 cases h
theorem znw {rn:Int->Int->List Nd} {t:Tk} {k2:Int} {p:Int×List Nd} (h:zbZ rn t k2=.inr p):p.1=17∨p.1=20∨p.1=22∨p.1=24∨p.1=26:=by
 unfold zbZ at h;by_cases c0:t.kd=2
 ·rw [iP c0] at h
  cases h
 rw [iN c0] at h;by_cases c1:t.kd=3∨t.kd=28
 ·rw [iP c1] at h
  cases h
 rw [iN c1] at h;by_cases c2:t.kd=5
 ·rw [iP c2] at h
  cases h
 rw [iN c2] at h;by_cases c3:t.kd=18
 ·rw [iP c3] at h
  cases h
 rw [iN c3] at h;by_cases c4:t.kd=29
 ·rw [iP c4] at h
  cases h
 rw [iN c4] at h;by_cases c5:t.kd=30
 ·rw [iP c5] at h
  cases h
 rw [iN c5] at h;by_cases c6:t.kd=1
 ·rw [iP c6] at h
  cases h
 rw [iN c6] at h;by_cases c7:t.kd=16
 ·rw [iP c7] at h
  cases h;simp
 rw [iN c7] at h;by_cases c8:t.kd=19
 ·rw [iP c8] at h
  by_cases d:k2=20
  ·rw [iP d] at h
   cases h
  ·rw [iN d] at h
   cases h;simp
 rw [iN c8] at h;by_cases c9:t.kd=21
 ·rw [iP c9] at h
  cases h;simp
 rw [iN c9] at h;by_cases c10:t.kd=23
 ·rw [iP c10] at h
  cases h;simp
 rw [iN c10] at h
 cases h;simp
theorem zi2 {E:PE} {i:Nat} {p:List Nd×Nat} (hi:i<E.l.length) (h:zbu E i=.inl p):0<p.2/\i+p.2<=E.l.length:=by
 rcases znv h with h1 | ⟨h1,h2⟩
 ·omega
 ·have:=za8 (E:=E) (i:=i+1) (by omega)
  omega
theorem za4 (E:PE):∀(f m i d a:Nat) (ns:List Nd),i<=E.l.length->(m=5->i<E.l.length)->PF E f m i d=.inl (a,ns)->i<=a/\a<=E.l.length/\(m=0∨m=2∨m=4∨m=5->i<a):=by
 intro f
 induction f with
 | zero=>intro m i d a ns _ _ h;cases h
 | succ f ih =>
  intro m i d a ns hi h5 h;rw [PF] at h;by_cases m0:m=0
  ·rw [iP m0] at h
   obtain ⟨a1,n1,r1,h⟩:=zaN h;obtain ⟨n2,r2,_⟩:=zaZ h;obtain ⟨x1,x2,x3⟩:=ih _ _ _ _ _ hi (by omega) r1;obtain ⟨y1,y2,_⟩:=ih _ _ _ _ _ x2 (by omega) r2;have:=x3 (by omega);dsimp only at y1 y2;exact ⟨by omega,y2,fun _=>by omega⟩
  rw [iN m0] at h;by_cases m1:m=1
  ·rw [iP m1] at h
   by_cases k7:kdA E i=7
   ·have hlt:=za8 (E:=E) (i:=i) (by omega)
    rw [iP k7] at h;obtain ⟨a1,n1,r1,h⟩:=zaN h;obtain ⟨n2,r2,_⟩:=zaZ h;obtain ⟨x1,x2,x3⟩:=ih _ _ _ _ _ (by omega) (by omega) r1;obtain ⟨y1,y2,_⟩:=ih _ _ _ _ _ x2 (by omega) r2;dsimp only at y1 y2;exact ⟨by omega,y2,fun q=>by omega⟩
   ·rw [iN k7] at h
    cases h
    exact ⟨nL _,hi,fun q=>by omega⟩
  rw [iN m1] at h;by_cases m2:m=2
  ·rw [iP m2] at h
   obtain ⟨a1,n1,r1,h⟩:=zaN h;obtain ⟨n2,r2,_⟩:=zaZ h;obtain ⟨x1,x2,x3⟩:=ih _ _ _ _ _ hi (by omega) r1;obtain ⟨y1,y2,_⟩:=ih _ _ _ _ _ x2 (by omega) r2;have:=x3 (by omega);dsimp only at y1 y2;exact ⟨by omega,y2,fun _=>by omega⟩
  rw [iN m2] at h;by_cases m3:m=3
  ·rw [iP m3] at h
   by_cases kb:bgn E i=true
   ·have hlt:=zc6 kb
    rw [iP kb] at h;obtain ⟨a1,n1,r1,h⟩:=zaN h;obtain ⟨n2,r2,_⟩:=zaZ h;obtain ⟨x1,x2,x3⟩:=ih _ _ _ _ _ (by omega) (by omega) r1;obtain ⟨y1,y2,_⟩:=ih _ _ _ _ _ x2 (by omega) r2;dsimp only at y1 y2;exact ⟨by omega,y2,fun q=>by omega⟩
   ·rw [iN kb] at h
    cases h
    exact ⟨nL _,hi,fun q=>by omega⟩
  rw [iN m3] at h;by_cases m4:m=4
  ·rw [iP m4] at h
   by_cases kb:bgn E i=true
   ·have hlt:=zc6 kb
    rw [iP kb] at h;by_cases k8:kdA E i=8∨kdA E i=9
    ·rw [iP k8] at h
     split at h
     ·cases h
     ·obtain ⟨a1,n1,r1,h⟩:=zaN h
      cases h
      obtain ⟨x1,x2,x3⟩:=ih _ _ _ _ _ (by omega) (by omega) r1;exact ⟨by omega,x2,fun _=>by omega⟩
    ·rw [iN k8] at h
     obtain ⟨a1,n1,r1,h⟩:=zaN h;obtain ⟨n2,r2,_⟩:=zaZ h;obtain ⟨x1,x2,x3⟩:=ih _ _ _ _ _ (by omega) (fun _=>hlt) r1;obtain ⟨y1,y2,_⟩:=ih _ _ _ _ _ x2 (by omega) r2;have:=x3 (by omega);dsimp only at y1 y2;exact ⟨by omega,y2,fun _=>by omega⟩
   ·rw [iN kb] at h;cases h
  rw [iN m4] at h;by_cases m5:m=5
  ·rw [iP m5] at h
   have hlt:=h5 m5
   cases hp:zbu E i with
   | inl p =>
    rw [hp] at h
    cases h
    have:=zi2 hlt hp;exact ⟨by omega,this.2,fun _=>by omega⟩
   | inr p =>
    rw [hp] at h;dsimp only at h
    split at h
    ·cases h
    ·obtain ⟨a1,n1,r1,h⟩:=zaN h
     obtain ⟨x1,x2,x3⟩:=ih _ _ _ _ _ (by omega) (by omega) r1
     split at h
     ·next hk =>
      cases h
      have:a1<E.l.length:=by
       apply za8
       intro q;have hc:=znw hp;omega
      exact ⟨by omega,by omega,fun _=>by omega⟩
     ·cases h
  rw [iN m5] at h
  cases hs:zgB E i with
  | inl p =>
   rw [hs] at h;obtain ⟨n2,r2,_⟩:=zaZ h;obtain ⟨q1,q2⟩:=zhr hs;obtain ⟨y1,y2,_⟩:=ih _ _ _ _ _ q2 (fun q=>by cases q) r2;dsimp only at y1 y2;exact ⟨by omega,y2,fun q=>by omega⟩
  | inr o =>
   rw [hs] at h
   cases o with
   | none=>cases h;exact ⟨nL _,hi,fun q=>by omega⟩
   | some q=>cases h
def rk (m:Nat):Nat:=if m=0 then 4 else if m=2 then 3 else if m=3 then 3 else if m=4 then 2 else if m=5 then 1 else 0
def nee (E:PE) (m i:Nat):Nat:=5 * (E.l.length - i)+rk m+1
theorem zb2 {r r':PR} {F G:Nat->List Nd->PR} (h:r=r') (h2:∀a ns,r=.inl (a,ns)->F a ns=G a ns):bnd r F=bnd r' G:=by
 subst h
 cases r with
 | inl p=>exact h2 p.1 p.2 rfl
 | inr q=>rfl
theorem zmR (m:Nat) (h0:¬m=0) (h2:¬m=2) (h3:¬m=3) (h4:¬m=4) (h5:¬m=5):rk m=0:=by
 unfold rk;rw [iN h0,iN h2,iN h3,iN h4,iN h5]
theorem rk0:rk 0=4:=rfl
theorem rk1:rk 1=0:=rfl
theorem rk2:rk 2=3:=rfl
theorem rk3:rk 3=3:=rfl
theorem rk4:rk 4=2:=rfl
theorem rk5:rk 5=1:=rfl
theorem rk6:rk 6=0:=rfl
theorem znx (E:PE):∀(f g m i d:Nat),i<=E.l.length->(m=5->i<E.l.length)->nee E m i<=f->nee E m i<=g->PF E f m i d=PF E g m i d:=by
 intro f
 induction f with
 | zero=>intro g m i d _ _ h;unfold nee at h;omega
 | succ f ih =>
  intro g m i d hi h5 hf hg
  cases g with
  | zero=>unfold nee at hg;omega
  | succ g =>
   unfold nee at hf hg ih;rw [PF,PF];by_cases m0:m=0
   ·subst m0
    rw [rk0] at hf hg;rw [iP rfl,iP rfl];refine zb2 (ih g 2 i d hi (by omega) (by rw [rk2];omega) (by rw [rk2];omega)) (fun a ns hr=>?_);obtain ⟨x1,x2,x3⟩:=za4 E _ _ _ _ _ _ hi (by omega) hr;have:=x3 (by omega);rw [ih g 1 a d x2 (by omega) (by rw [rk1];omega) (by rw [rk1];omega)]
   rw [iN m0,iN m0];by_cases m1:m=1
   ·subst m1
    rw [rk1] at hf hg;rw [iP rfl,iP rfl];by_cases k7:kdA E i=7
    ·have hlt:=za8 (E:=E) (i:=i) (by omega)
     rw [iP k7,iP k7];refine zb2 (ih g 2 (i+1) d (by omega) (by omega) (by rw [rk2];omega) (by rw [rk2];omega)) (fun a ns hr=>?_);obtain ⟨x1,x2,x3⟩:=za4 E _ _ _ _ _ _ (by omega) (by omega) hr;rw [ih g 1 a d x2 (by omega) (by rw [rk1];omega) (by rw [rk1];omega)]
    ·rw [iN k7,iN k7]
   rw [iN m1,iN m1];by_cases m2:m=2
   ·subst m2
    rw [rk2] at hf hg;rw [iP rfl,iP rfl];refine zb2 (ih g 4 i d hi (by omega) (by rw [rk4];omega) (by rw [rk4];omega)) (fun a ns hr=>?_);obtain ⟨x1,x2,x3⟩:=za4 E _ _ _ _ _ _ hi (by omega) hr;have:=x3 (by omega);rw [ih g 3 a d x2 (by omega) (by rw [rk3];omega) (by rw [rk3];omega)]
   rw [iN m2,iN m2];by_cases m3:m=3
   ·subst m3
    rw [rk3] at hf hg;rw [iP rfl,iP rfl];by_cases kb:bgn E i=true
    ·have hlt:=zc6 kb
     rw [iP kb,iP kb];refine zb2 (ih g 4 i d (by omega) (by omega) (by rw [rk4];omega) (by rw [rk4];omega)) (fun a ns hr=>?_);obtain ⟨x1,x2,x3⟩:=za4 E _ _ _ _ _ _ (by omega) (by omega) hr;have:=x3 (by omega);rw [ih g 3 a d x2 (by omega) (by rw [rk3];omega) (by rw [rk3];omega)]
    ·rw [iN kb,iN kb]
   rw [iN m3,iN m3];by_cases m4:m=4
   ·subst m4
    rw [rk4] at hf hg;rw [iP rfl,iP rfl];by_cases kb:bgn E i=true
    ·have hlt:=zc6 kb
     rw [iP kb,iP kb];by_cases k8:kdA E i=8∨kdA E i=9
     ·rw [iP k8,iP k8]
      by_cases hd:240<=d
      ·rw [iP hd,iP hd]
      ·rw [iN hd,iN hd]
       exact zb2 (ih g 4 (i+1) (d+1) (by omega) (by omega) (by rw [rk4];omega) (by rw [rk4];omega)) (fun a ns hr=>rfl)
     ·rw [iN k8,iN k8]
      refine zb2 (ih g 5 i d (by omega) (fun _=>hlt) (by rw [rk5];omega) (by rw [rk5];omega)) (fun a ns hr=>?_);obtain ⟨x1,x2,x3⟩:=za4 E _ _ _ _ _ _ (by omega) (fun _=>hlt) hr;have:=x3 (by omega);rw [ih g 6 a d x2 (by omega) (by rw [rk6];omega) (by rw [rk6];omega)]
    ·rw [iN kb,iN kb]
   rw [iN m4,iN m4];by_cases m5:m=5
   ·have hlt:=h5 m5
    subst m5;rw [rk5] at hf hg;rw [iP rfl,iP rfl]
    cases hp:zbu E i with
    | inl p=>rfl
    | inr p =>
     dsimp only;by_cases hd:240<=d
     ·rw [iP hd,iP hd]
     ·rw [iN hd,iN hd]
      exact zb2 (ih g 0 (i+1) (d+1) (by omega) (by omega) (by rw [rk0];omega) (by rw [rk0];omega)) (fun a ns hr=>rfl)
   rw [iN m5,iN m5];rw [zmR m m0 m2 m3 m4 m5] at hf hg
   cases hs:zgB E i with
   | inl p =>
    obtain ⟨q1,q2⟩:=zhr hs;dsimp only;rw [ih g 6 (i+p.2) d q2 (by omega) (by rw [rk6];omega) (by rw [rk6];omega)]
   | inr o=>cases o <;> rfl
theorem zi3 (E:PE):kdA E E.l.length=0:=by unfold kdA;rw [List.getElem?_eq_none (nL _)]
theorem zde {r:PR} {f:Nat->List Nd->PR} {q:Nat×Int} (h:bnd r f=.inr q):r=.inr q∨∃a ns,r=.inl (a,ns)/\f a ns=.inr q:=by
 cases r with
 | inl p=>exact .inr ⟨p.1,p.2,rfl,h⟩
 | inr p=>exact .inl h
theorem zdQ {ns:List Nd} {r:PR} {q:Nat×Int} (h:ahd ns r=.inr q):r=.inr q:=by
 cases r with
 | inl p=>cases h
 | inr p=>exact h
theorem sufK_e {tm:ByteArray->Bool} {t u:Tk} {k k2 c:Int} (h:zi1 tm t u k k2=.inr (some c)):c=60∨c=61∨c=1:=by
 unfold zi1 at h;by_cases h0:k=10
 ·rw [iP h0] at h;cases h
 rw [iN h0] at h;by_cases h1:k=11
 ·rw [iP h1] at h;cases h
 rw [iN h1] at h;by_cases h2:k=12
 ·rw [iP h2] at h;cases h
 rw [iN h2] at h;by_cases h3:k=13
 ·rw [iP h3] at h;cases h
 rw [iN h3] at h;by_cases h4:k=14
 ·rw [iP h4] at h;cases h
 rw [iN h4] at h;by_cases h5:k=15
 ·rw [iP h5] at h;cases h
 rw [iN h5] at h;by_cases h7:k=27
 ·rw [iP h7] at h
  by_cases h8:k2=2
  ·rw [iP h8] at h
   split at h
   ·cases h
   ·cases h;exact .inr (.inl rfl)
  ·rw [iN h8] at h
   by_cases h9:k2=4
   ·rw [iP h9] at h
    split at h
    ·cases h;exact .inr (.inr rfl)
    ·cases h
   ·rw [iN h9] at h;cases h;exact .inl rfl
 ·rw [iN h7] at h;cases h
theorem zny {tm:ByteArray->Bool} {t u:Tk} {k k2 c:Int} (h:zi1 tm t u k k2=.inr (some c)):k=27:=by
 unfold zi1 at h;by_cases h0:k=10
 ·rw [iP h0] at h;cases h
 rw [iN h0] at h;by_cases h1:k=11
 ·rw [iP h1] at h;cases h
 rw [iN h1] at h;by_cases h2:k=12
 ·rw [iP h2] at h;cases h
 rw [iN h2] at h;by_cases h3:k=13
 ·rw [iP h3] at h;cases h
 rw [iN h3] at h;by_cases h4:k=14
 ·rw [iP h4] at h;cases h
 rw [iN h4] at h;by_cases h5:k=15
 ·rw [iP h5] at h;cases h
 rw [iN h5] at h;by_cases h7:k=27
 ·exact h7
 ·rw [iN h7] at h;cases h
theorem zmS (E:PE):∀(f m i d:Nat) (q:Nat×Int),i<=E.l.length->(m=5->i<E.l.length)->nee E m i<=f->PF E f m i d=.inr q->q.1<=E.l.length/\(q.2=60∨q.2=61∨q.2=4∨q.2=1):=by
 intro f
 induction f with
 | zero=>intro m i d q _ _ h;unfold nee at h;omega
 | succ f ih =>
  intro m i d q hi h5 hf hr;rw [PF] at hr;by_cases m0:m=0
  ·subst m0
   unfold nee at hf;rw [rk0] at hf;rw [iP rfl] at hr
   rcases zde hr with r1 | ⟨a1,n1,r1,hr⟩
   ·exact ih _ _ _ _ hi (by omega) (by unfold nee;rw [rk2];omega) r1
   ·obtain ⟨x1,x2,x3⟩:=za4 E _ _ _ _ _ _ hi (by omega) r1
    exact ih _ _ _ _ x2 (by omega) (by unfold nee;rw [rk1];have:=x3 (by omega);omega) (zdQ hr)
  rw [iN m0] at hr;by_cases m1:m=1
  ·subst m1
   unfold nee at hf;rw [rk1] at hf;rw [iP rfl] at hr;by_cases k7:kdA E i=7
   ·have hlt:=za8 (E:=E) (i:=i) (by omega)
    rw [iP k7] at hr
    rcases zde hr with r1 | ⟨a1,n1,r1,hr⟩
    ·exact ih _ _ _ _ (by omega) (by omega) (by unfold nee;rw [rk2];omega) r1
    ·obtain ⟨x1,x2,x3⟩:=za4 E _ _ _ _ _ _ (by omega) (by omega) r1
     exact ih _ _ _ _ x2 (by omega) (by unfold nee;rw [rk1];have:=x3 (by omega);omega) (zdQ hr)
   ·rw [iN k7] at hr;cases hr
  rw [iN m1] at hr;by_cases m2:m=2
  ·subst m2
   unfold nee at hf;rw [rk2] at hf;rw [iP rfl] at hr
   rcases zde hr with r1 | ⟨a1,n1,r1,hr⟩
   ·exact ih _ _ _ _ hi (by omega) (by unfold nee;rw [rk4];omega) r1
   ·obtain ⟨x1,x2,x3⟩:=za4 E _ _ _ _ _ _ hi (by omega) r1
    exact ih _ _ _ _ x2 (by omega) (by unfold nee;rw [rk3];have:=x3 (by omega);omega) (zdQ hr)
  rw [iN m2] at hr;by_cases m3:m=3
  ·subst m3
   unfold nee at hf;rw [rk3] at hf;rw [iP rfl] at hr;by_cases kb:bgn E i=true
   ·rw [iP kb] at hr
    rcases zde hr with r1 | ⟨a1,n1,r1,hr⟩
    ·exact ih _ _ _ _ hi (by omega) (by unfold nee;rw [rk4];omega) r1
    ·obtain ⟨x1,x2,x3⟩:=za4 E _ _ _ _ _ _ hi (by omega) r1
     exact ih _ _ _ _ x2 (by omega) (by unfold nee;rw [rk3];have:=x3 (by omega);omega) (zdQ hr)
   ·rw [iN kb] at hr;cases hr
  rw [iN m3] at hr;by_cases m4:m=4
  ·subst m4
   unfold nee at hf;rw [rk4] at hf;rw [iP rfl] at hr;by_cases kb:bgn E i=true
   ·have hlt:=zc6 kb
    rw [iP kb] at hr;by_cases k8:kdA E i=8∨kdA E i=9
    ·rw [iP k8] at hr
     by_cases hd:240<=d
     ·rw [iP hd] at hr;cases hr;exact ⟨hi,by simp⟩
     ·rw [iN hd] at hr
      rcases zde hr with r1 | ⟨a1,n1,r1,hr⟩
      ·exact ih _ _ _ _ (by omega) (by omega) (by unfold nee;rw [rk4];omega) r1
      ·cases hr
    ·rw [iN k8] at hr
     rcases zde hr with r1 | ⟨a1,n1,r1,hr⟩
     ·exact ih _ _ _ _ hi (fun _=>hlt) (by unfold nee;rw [rk5];omega) r1
     ·obtain ⟨x1,x2,x3⟩:=za4 E _ _ _ _ _ _ hi (fun _=>hlt) r1
      exact ih _ _ _ _ x2 (by omega) (by unfold nee;rw [rk6];have:=x3 (by omega);omega) (zdQ hr)
   ·rw [iN kb] at hr;cases hr;exact ⟨hi,by simp⟩
  rw [iN m4] at hr;by_cases m5:m=5
  ·have hlt:=h5 m5
   subst m5;unfold nee at hf;rw [rk5] at hf;rw [iP rfl] at hr
   cases hp:zbu E i with
   | inl p=>rw [hp] at hr;cases hr
   | inr p =>
    rw [hp] at hr;dsimp only at hr;by_cases hd:240<=d
    ·rw [iP hd] at hr;cases hr;exact ⟨hi,by simp⟩
    ·rw [iN hd] at hr
     rcases zde hr with r1 | ⟨a1,n1,r1,hr⟩
     ·exact ih _ _ _ _ (by omega) (by omega) (by unfold nee;rw [rk0];omega) r1
     ·obtain ⟨x1,x2,x3⟩:=za4 E _ _ _ _ _ _ (by omega) (by omega) r1
      split at hr
      ·cases hr
      ·cases hr;exact ⟨x2,by simp⟩
  rw [iN m5] at hr;unfold nee at hf;rw [zmR m m0 m2 m3 m4 m5] at hf
  cases hs:zgB E i with
  | inl p =>
   rw [hs] at hr;obtain ⟨q1,q2⟩:=zhr hs;exact ih _ _ _ _ q2 (fun q=>by cases q) (by unfold nee;rw [rk6];omega) (zdQ hr)
  | inr o =>
   rw [hs] at hr
   cases o with
   | none=>cases hr
   | some c =>
    have hc:=sufK_e hs;have hk:kdA E i=27:=zny hs;have:=za8 (E:=E) (i:=i) (by omega)
    cases hr
    exact ⟨this,by dsimp only;omega⟩
def fue (E:PE):Nat:=5 * E.l.length+5
theorem znz (E:PE) (i:Nat):nee E 0 i<=fue E:=by
 unfold nee fue;rw [rk0];omega
def exN (E:PE) (i:Nat):PR:=PF E (fue E) 0 i 0
theorem zer {E:PE} {i a:Nat} {ns:List Nd} (hi:i<=E.l.length) (h:exN E i=.inl (a,ns)):i<a/\a<=E.l.length:=by
 obtain ⟨_,h2,h3⟩:=za4 E _ _ _ _ _ _ hi (by omega) h;exact ⟨h3 (.inl rfl),h2⟩
theorem zmT {E:PE} {i:Nat} {q:Nat×Int} (hi:i<=E.l.length) (h:exN E i=.inr q):q.1<=E.l.length/\(q.2=60∨q.2=61∨q.2=4∨q.2=1):=zmS E _ _ _ _ _ hi (by omega) (znz E i) h
def ruB (E:PE) (i:Nat):Bool:=kdA E i==1&&kdA E (i+1)==6
abbrev Rl:=Nat×ByteArray×List Nd
def rlG (ex:Nat->PR) (E:PE):Nat->Nat->List Rl->Sum (List Rl) (Nat×Int)
 | 0,_,out=>.inl out
 | f+1,i,out=>if i<E.l.length then (if ruB E i=true then (match ex (i+2) with
  | .inr q=>.inr q
  | .inl p=>rlG ex E f p.1 (out++[(i,(tkA E i).tx,p.2)])) else .inr (i,60)) else .inl out
def rdN (E:PE):Sum (List Rl) (Nat×Int):=if ruB E 0=true then rlG (exN E) E (E.l.length+1) 0 [] else (match exN E 0 with
 | .inr q=>.inr q
 | .inl p=>if p.1<E.l.length then .inr (p.1,60) else .inl [(0,⟨#[]⟩,p.2)])
theorem zeR {E:PE} {i:Nat} (h:ruB E i=true):i+2<=E.l.length:=by
 unfold ruB at h;simp only [Bool.and_eq_true,beq_iff_eq] at h;have:=za8 (E:=E) (i:=i+1) (by omega);omega
theorem znA (E:PE):∀(f i:Nat) (out:List Rl) (q:Nat×Int),rlG (exN E) E f i out=.inr q->q.1<=E.l.length/\(q.2=60∨q.2=61∨q.2=4∨q.2=1):=by
 intro f
 induction f with
 | zero=>intro i out q h;rw [rlG] at h;cases h
 | succ f ih =>
  intro i out q h;rw [rlG] at h;by_cases hi:i<E.l.length
  ·rw [iP hi] at h
   by_cases hr:ruB E i=true
   ·rw [iP hr] at h
    cases he:exN E (i+2) with
    | inr p=>rw [he] at h;cases h;exact zmT (zeR hr) he
    | inl p=>rw [he] at h;exact ih _ _ _ h
   ·rw [iN hr] at h;cases h;exact ⟨Nat.le_of_lt hi,by simp⟩
  ·rw [iN hi] at h;cases h
theorem znB {E:PE} {q:Nat×Int} (h:rdN E=.inr q):q.1<=E.l.length/\(q.2=60∨q.2=61∨q.2=4∨q.2=1):=by
 unfold rdN at h;by_cases hr:ruB E 0=true
 ·rw [iP hr] at h;exact znA E _ _ _ _ h
 ·rw [iN hr] at h
  cases he:exN E 0 with
  | inr p=>rw [he] at h;cases h;exact zmT (Nat.zero_le _) he
  | inl p =>
   rw [he] at h;dsimp only at h
   split at h
   ·next hp=>cases h;exact ⟨Nat.le_of_lt hp,by simp⟩
   ·cases h
def gN (E:PE) (m i d:Nat):PR:=PF E (5 * E.l.length+5) m i d
theorem zi4 (E:PE) (m i:Nat):nee E m i<=5 * E.l.length+5:=by
 unfold nee rk
 split
 ·omega
 ·split
  ·omega
  ·split
   ·omega
   ·split
    ·omega
    ·split <;> omega
theorem zdf (E:PE) (m i d:Nat) (hi:i<=E.l.length) (h5:m=5->i<E.l.length):gN E m i d=PF E (5 * E.l.length+5+1) m i d :=
 znx E _ _ m i d hi h5 (zi4 E m i) (Nat.le_succ_of_le (zi4 E m i))
theorem znC (E:PE) (i:Nat):gN E 0 i 0=exN E i:=rfl
theorem zbM {E:PE} {m i d a:Nat} {ns:List Nd} (hi:i<=E.l.length) (h5:m=5->i<E.l.length) (h:gN E m i d=.inl (a,ns)):i<=a/\a<=E.l.length/\(m=0∨m=2∨m=4∨m=5->i<a):=za4 E _ _ _ _ _ _ hi h5 h
theorem zbx {E:PE} {m i d:Nat} {q:Nat×Int} (hi:i<=E.l.length) (h5:m=5->i<E.l.length) (h:gN E m i d=.inr q):q.1<=E.l.length/\(q.2=60∨q.2=61∨q.2=4∨q.2=1):=zmS E _ _ _ _ _ hi h5 (zi4 E m i) h
theorem g0 (E:PE) (i d:Nat) (hi:i<=E.l.length):gN E 0 i d=bnd (gN E 2 i d) fun a ns=>ahd ns (gN E 1 a d):=by
 rw [zdf E 0 i d hi (by omega),PF,iP rfl];rfl
theorem g1 (E:PE) (i d:Nat) (hi:i<=E.l.length):gN E 1 i d=if kdA E i=7 then bnd (gN E 2 (i+1) d) fun a ns=>ahd (ns++[nd0 8]) (gN E 1 a d) else .inl (i,[]):=by
 rw [zdf E 1 i d hi (by omega),PF,iN (by decide),iP rfl];rfl
theorem g2 (E:PE) (i d:Nat) (hi:i<=E.l.length):gN E 2 i d=bnd (gN E 4 i d) fun a ns=>ahd ns (gN E 3 a d):=by
 rw [zdf E 2 i d hi (by omega),PF,iN (by decide),iN (by decide),iP rfl];rfl
theorem g3 (E:PE) (i d:Nat) (hi:i<=E.l.length):gN E 3 i d=if bgn E i=true then bnd (gN E 4 i d) fun a ns=>ahd (ns++[nd0 7]) (gN E 3 a d) else .inl (i,[]):=by
 rw [zdf E 3 i d hi (by omega),PF,iN (by decide),iN (by decide),iN (by decide),iP rfl];rfl
theorem g4 (E:PE) (i d:Nat) (hi:i<=E.l.length):gN E 4 i d=if bgn E i=true then
        (if kdA E i=8∨kdA E i=9 then (if 240<=d then .inr (i,4) else bnd (gN E 4 (i+1) (d+1)) fun a ns=>.inl (a,ns++[nd0 (if kdA E i=8 then 12 else 13)]))
         else bnd (gN E 5 i d) fun a ns=>ahd ns (gN E 6 a d))
       else .inr (i,60):=by
  rw [zdf E 4 i d hi (by omega),PF,iN (by decide),iN (by decide),iN (by decide),iN (by decide),iP rfl];rfl
theorem g5 (E:PE) (i d:Nat) (hi:i<E.l.length):gN E 5 i d=match zbu E i with
       | .inl p=>.inl (i+p.2,p.1)
       | .inr p=>if 240<=d then .inr (i,4) else bnd (gN E 0 (i+1) (d+1)) fun a ms=>if kdA E a=p.1 then .inl (a+1,ms++p.2) else .inr (a,60):=by
  rw [zdf E 5 i d (by omega) (fun _=>hi),PF,iN (by decide),iN (by decide),iN (by decide),iN (by decide),iN (by decide),iP rfl];rfl
theorem g6 (E:PE) (i d:Nat) (hi:i<=E.l.length):gN E 6 i d=match zgB E i with
       | .inr none=>.inl (i,[])
       | .inr (some c)=>.inr (i+1,c)
       | .inl p=>ahd [p.1] (gN E 6 (i+p.2) d):=by
  rw [zdf E 6 i d hi (by omega),PF,iN (by decide),iN (by decide),iN (by decide),iN (by decide),iN (by decide),iN (by decide)];rfl
theorem zcr (a b:List Nd) (r:PR):ahd a (ahd b r)=ahd (a++b) r:=by
 cases r with
 | inl p=>show Sum.inl _=Sum.inl _;rw [List.append_assoc]
 | inr q=>rfl
end Go.Proofs.YtkihfkcmcdiajaaGreatDoor.N
namespace Go.Proofs.YtkihfkcmcdiajaaGreatDoor
open Go.RowKit
theorem zan (s:ByteArray) (i:Nat) (c:Int) (hc:0<=c) (w:World) :
  Calls Tryz.prog 148 #[.string s,.int .i64 i,.int .u8 c] w (rU w (.bool (chr s i==c))):=by
 by_cases h:i<s.size
 ·have HE:=hO (zam h)
  have h0:(0:Int)<=(i:Int):=by omega
  have h1:(i:Int)<(s.size:Int):=by omega
  go_enter Tryz.func148,Tryz.ntmps148;go_wp2
  go_ret
  exact ⟨by rw [HE.out];rfl,rfl⟩
 ·have HE:Hid ((chr s i==c)=false):=(by show (chr s i==c)=false;rw [zau h];exact bF (by omega))
  have h1:¬(i:Int)<(s.size:Int):=by omega
  go_enter Tryz.func148,Tryz.ntmps148;go_wp2
  go_ret
  exact ⟨zaD HE.symm,rfl⟩
abbrev digs:ByteArray:=⟨#[48,49,50,51,52,53,54,55,56,57,97,98,99,100,101,102]⟩
theorem zgC (c:UInt8):Lib.indexByte digs.data.toList c=zaI (c.toNat:Int):=by
 have key:∀n,n<256->Lib.indexByte digs.data.toList (UInt8.ofNat n)=zaI (n:Int):=by decide +kernel
 have:=key c.toNat c.toNat_lt;rw [UInt8.ofNat_toNat] at this;exact this
theorem zcg (c:UInt8) (w:World):Calls Tryz.prog 144 #[.string digs,.int .u8 (c.toNat:Int)] w (rU w (.int .i64 (zaI (c.toNat:Int)))):=by
 refine (Tryz.strings_IndexByte digs (c.toNat:Int) w).mono ?_;rintro e w' ⟨rfl,rfl⟩;refine ⟨?_,rfl⟩;rw [<-zgC];simp
def itV:Option (Nat×Nat)->Value
 | none=>.tuple #[.int .i64 0,.int .i64 0,.bool false]
 | some (b,n)=>.tuple #[.int .i64 b,.int .i64 n,.bool true]
theorem ze6 {b n:Nat} {b' n':Int} (hb:b'=b) (hn:n'=n):Ending.returned (.tuple #[.int .i64 b',.int .i64 n',.bool true])=.returned (itV (some (b,n))):=by rw [hb,hn];rfl
theorem zdg (s:ByteArray) (i:Nat) (hi:i+1<s.size) (hs:s.size<=140737488355328) (w:World) :
  Calls Tryz.prog 193 #[.string s,.int .i64 i] w (rU w (itV (zbf s i))):=by
 by_cases h:i+3<s.size
 ·have h2:i+2<s.size:=by omega
  have hb1:=zbh (s[i+2].toNat:Int);have hb2:=zbh (s[i+3].toNat:Int);have HE:Hid (zbf s i=if 0<=zaI (s[i+2].toNat:Int)/\0<=zaI (s[i+3].toNat:Int) then some ((16 * zaI (s[i+2].toNat:Int)+zaI (s[i+3].toNat:Int)).toNat,i+4) else none):=(by show zbf s i=_;unfold zbf;rw [zam h,zam h2]);have HI:Hid (∀w,Cl 144 #[.string digs,.int .u8 (s[i+2].toNat:Int)] w (rU w (.int .i64 (zaI (s[i+2].toNat:Int))))):=fun w=>zcg _ w
  have HJ:Hid (∀w,Cl 144 #[.string digs,.int .u8 (s[i+3].toNat:Int)] w (rU w (.int .i64 (zaI (s[i+3].toNat:Int))))):=fun w=>zcg _ w
  go_enter Tryz.func193,Tryz.ntmps193;go_wp2_with fail;refine (HI _).mono ?_;rintro e w' ⟨rfl,rfl⟩;clear HI;go_wp2_with fail;refine (HJ _).mono ?_;rintro e w' ⟨rfl,rfl⟩;clear HJ;generalize zaI (s[i+2].toNat:Int)=a at *;generalize zaI (s[i+3].toNat:Int)=b at *;by_cases ha:0<=a
  ·by_cases hb:0<=b
   ·go_wp2
    go_ret3
    exact ⟨by rw [HE.out,iP ⟨ha,hb⟩];exact ze6 (by omega) (by omega),rfl⟩
   ·go_wp2
    go_ret3
    exact ⟨by rw [HE.out,iN (fun h=>by omega)];rfl,rfl⟩
  ·go_wp2
   go_ret3
   exact ⟨by rw [HE.out,iN (fun h=>by omega)];rfl,rfl⟩
 ·have h1:¬(i:Int)+3<(s.size:Int):=by omega
  have HE:Hid (zbf s i=none):=(by show zbf s i=none;unfold zbf;rw [zau h];rw [iN];rintro ⟨_,h2⟩;simp [zaI] at h2);go_enter Tryz.func193,Tryz.ntmps193;go_wp2
  go_ret3
  exact ⟨by rw [HE.out];rfl,rfl⟩
theorem zdh (s:ByteArray) (i:Nat) (hi:i<s.size) (hs:s.size<=140737488355328) (w:World) :
  Calls Tryz.prog 189 #[.string s,.int .i64 i] w (rU w (itV (zaJ s i))):=by
 by_cases h:i+1<s.size
 ·have HX:Hid (∀w,Cl 193 #[.string s,.int .i64 i] w (rU w (itV (zbf s i)))):=fun w=>zdg s i h hs w
  have hb:(0:Int)<=(s[i+1].toNat:Int)/\(s[i+1].toNat:Int)<=255:=by have:=s[i+1].toNat_lt;omega
  have hw8:IntKind.i64.wrap (s[i+1].toNat:Int)=(s[i+1].toNat:Int):=by rw [wI];omega
  have HE:Hid (zaJ s i=if (s[i+1].toNat:Int)=110 then some (10,i+2) else if (s[i+1].toNat:Int)=114 then some (13,i+2) else if (s[i+1].toNat:Int)=116 then some (9,i+2) else
 if (s[i+1].toNat:Int)=120 then zbf s i else if zaP (s[i+1].toNat:Int) then some ((s[i+1].toNat:Int).toNat,i+2) else none):=(by show zaJ s i=_;unfold zaJ;rw [zam h])
  by_cases h110:(s[i+1].toNat:Int)=110
  ·have HF:Hid (zaJ s i=some (10,i+2)):=(by show zaJ s i=_;rw [HE.out];rw [iP h110])
   clear HE HX;have e110:((s[i+1].toNat:Int)==110)=true:=beq_iff_eq.2 h110;clear h110;go_enter Tryz.func189,Tryz.ntmps189;go_wp2
   go_ret3
   exact ⟨by rw [HF.out];exact ze6 rfl (by omega),rfl⟩
  have e110:((s[i+1].toNat:Int)==110)=false:=bF h110;by_cases h114:(s[i+1].toNat:Int)=114
  ·have HF:Hid (zaJ s i=some (13,i+2)):=(by show zaJ s i=_;rw [HE.out];rw [iN h110,iP h114])
   clear HE HX;have e114:((s[i+1].toNat:Int)==114)=true:=beq_iff_eq.2 h114;clear h114;go_enter Tryz.func189,Tryz.ntmps189;go_wp2
   go_ret3
   exact ⟨by rw [HF.out];exact ze6 rfl (by omega),rfl⟩
  have e114:((s[i+1].toNat:Int)==114)=false:=bF h114;by_cases h116:(s[i+1].toNat:Int)=116
  ·have HF:Hid (zaJ s i=some (9,i+2)):=(by show zaJ s i=_;rw [HE.out];rw [iN h110,iN h114,iP h116])
   clear HE HX;have e116:((s[i+1].toNat:Int)==116)=true:=beq_iff_eq.2 h116;clear h116;go_enter Tryz.func189,Tryz.ntmps189;go_wp2
   go_ret3
   exact ⟨by rw [HF.out];exact ze6 rfl (by omega),rfl⟩
  have e116:((s[i+1].toNat:Int)==116)=false:=bF h116;by_cases h120:(s[i+1].toNat:Int)=120
  ·have HF:Hid (zaJ s i=zbf s i):=(by show zaJ s i=_;rw [HE.out];rw [iN h110,iN h114,iN h116,iP h120])
   have e120:((s[i+1].toNat:Int)==120)=true:=beq_iff_eq.2 h120;clear HE h110 h114 h116 h120;go_enter Tryz.func189,Tryz.ntmps189;go_wp2_with fail;refine (HX _).mono ?_;rintro e w' ⟨rfl,rfl⟩
   cases hq:zbf s i with
   | none =>
    rw [hq] at HF;clear HX hq;dsimp only [itV];go_wp2
    go_ret3
    exact ⟨by rw [HF.out];rfl,rfl⟩
   | some q =>
    obtain ⟨qb,qn⟩:=q;rw [hq] at HF;clear HX hq;dsimp only [itV];go_wp2
    go_ret3
    exact ⟨by rw [HF.out];rfl,rfl⟩
  have e120:((s[i+1].toNat:Int)==120)=false:=bF h120
  cases hg:zaP (s[i+1].toNat:Int)
  ·have HF:Hid (zaJ s i=none):=(by show zaJ s i=_;rw [HE.out];rw [iN h110,iN h114,iN h116,iN h120,iN (by rw [hg];simp)])
   clear HE HX h110 h114 h116 h120;go_enter Tryz.func189,Tryz.ntmps189;go_wp2_with fail;refine (ze4 _ _).mono ?_;rintro e w' ⟨rfl,rfl⟩;go_wp2
   go_ret3
   exact ⟨by rw [HF.out];rfl,rfl⟩
  ·have HF:Hid (zaJ s i=some ((s[i+1].toNat:Int).toNat,i+2)):=(by show zaJ s i=_;rw [HE.out];rw [iN h110,iN h114,iN h116,iN h120,iP (by rw [hg])])
   clear HE HX h110 h114 h116 h120;go_enter Tryz.func189,Tryz.ntmps189;go_wp2_with fail;refine (ze4 _ _).mono ?_;rintro e w' ⟨rfl,rfl⟩;go_wp2
   go_ret3
   exact ⟨by rw [HF.out];exact ze6 (by omega) (by omega),rfl⟩
 ·have HE:Hid (zaJ s i=none):=(by show zaJ s i=none;unfold zaJ;rw [zau h];rfl)
  have h1:¬(i:Int)+1<(s.size:Int):=by omega
  go_enter Tryz.func189,Tryz.ntmps189;go_wp2
  go_ret3
  exact ⟨by rw [HE.out];rfl,rfl⟩
theorem za5 (s:ByteArray) (i:Nat) (hs:s.size<=140737488355328) (w:World) :
  Calls Tryz.prog 179 #[.string s,.int .i64 i] w (rU w (itV (zaj s i))):=by
 by_cases h:i<s.size
 ·have HX:Hid (∀w,Cl 189 #[.string s,.int .i64 i] w (rU w (itV (zaJ s i)))):=fun w=>zdh s i h hs w
  have hb:(0:Int)<=(s[i].toNat:Int)/\(s[i].toNat:Int)<=255:=by have:=s[i].toNat_lt;omega
  have hw8:IntKind.i64.wrap (s[i].toNat:Int)=(s[i].toNat:Int):=by rw [wI];omega
  have HE:Hid (zaj s i=if (s[i].toNat:Int)=92 then zaJ s i else if (s[i].toNat:Int)=93∨(s[i].toNat:Int)=45∨(s[i].toNat:Int)=37∨zhq (s[i].toNat:Int)=false then none else some ((s[i].toNat:Int).toNat,i+1)):=(by show zaj s i=_;unfold zaj;rw [zam h]);by_cases h92:(s[i].toNat:Int)=92
  ·have HF:Hid (zaj s i=zaJ s i):=(by show zaj s i=_;rw [HE.out];rw [iP h92])
   have e92:((s[i].toNat:Int)==92)=true:=beq_iff_eq.2 h92;clear HE h92;go_enter Tryz.func179,Tryz.ntmps179;go_wp2_with fail;refine (HX _).mono ?_;rintro e w' ⟨rfl,rfl⟩
   cases hq:zaJ s i with
   | none =>
    rw [hq] at HF;clear HX hq;dsimp only [itV];go_wp2
    go_ret3
    exact ⟨by rw [HF.out];rfl,rfl⟩
   | some q =>
    obtain ⟨qb,qn⟩:=q;rw [hq] at HF;clear HX hq;dsimp only [itV];go_wp2
    go_ret3
    exact ⟨by rw [HF.out];rfl,rfl⟩
  have e92:((s[i].toNat:Int)==92)=false:=bF h92;clear HX;by_cases h93:(s[i].toNat:Int)=93
  ·have HF:Hid (zaj s i=none):=(by show zaj s i=_;rw [HE.out,iN h92,iP (.inl h93)])
   have e93:((s[i].toNat:Int)==93)=true:=beq_iff_eq.2 h93;clear HE h92 h93;go_enter Tryz.func179,Tryz.ntmps179;go_wp2
   go_ret3
   exact ⟨by rw [HF.out];rfl,rfl⟩
  have e93:((s[i].toNat:Int)==93)=false:=bF h93;by_cases h45:(s[i].toNat:Int)=45
  ·have HF:Hid (zaj s i=none):=(by show zaj s i=_;rw [HE.out,iN h92,iP (.inr (.inl h45))])
   have e45:((s[i].toNat:Int)==45)=true:=beq_iff_eq.2 h45;clear HE h92 h93 h45;go_enter Tryz.func179,Tryz.ntmps179;go_wp2
   go_ret3
   exact ⟨by rw [HF.out];rfl,rfl⟩
  have e45:((s[i].toNat:Int)==45)=false:=bF h45;by_cases h37:(s[i].toNat:Int)=37
  ·have HF:Hid (zaj s i=none):=(by show zaj s i=_;rw [HE.out,iN h92,iP (.inr (.inr (.inl h37)))])
   have e37:((s[i].toNat:Int)==37)=true:=beq_iff_eq.2 h37;clear HE h92 h93 h45 h37;go_enter Tryz.func179,Tryz.ntmps179;go_wp2
   go_ret3
   exact ⟨by rw [HF.out];rfl,rfl⟩
  have e37:((s[i].toNat:Int)==37)=false:=bF h37
  cases hg:zhq (s[i].toNat:Int)
  ·have HF:Hid (zaj s i=none):=(by show zaj s i=_;rw [HE.out,iN h92,iP (.inr (.inr (.inr hg)))])
   clear HE h92 h93 h45 h37;go_enter Tryz.func179,Tryz.ntmps179;go_wp2_with fail;refine (zcF _ _).mono ?_;rintro e w' ⟨rfl,rfl⟩;go_wp2
   go_ret3
   exact ⟨by rw [HF.out];rfl,rfl⟩
  ·have HF:Hid (zaj s i=some ((s[i].toNat:Int).toNat,i+1)):=(by show zaj s i=_;rw [HE.out,iN h92,iN (by rw [hg];simp;omega)])
   clear HE h92 h93 h45 h37;go_enter Tryz.func179,Tryz.ntmps179;go_wp2_with fail;refine (zcF _ _).mono ?_;rintro e w' ⟨rfl,rfl⟩;go_wp2
   go_ret3
   exact ⟨by rw [HF.out];exact ze6 (by omega) (by omega),rfl⟩
 ·have HE:Hid (zaj s i=none):=(by show zaj s i=none;unfold zaj;rw [zau h];rfl)
  have h1:¬(i:Int)<(s.size:Int):=by omega
  go_enter Tryz.func179,Tryz.ntmps179;go_wp2
  go_ret3
  exact ⟨by rw [HE.out];rfl,rfl⟩
theorem za0 (s:ByteArray) (i:Nat) (w:World) :
  Calls Tryz.prog 55 #[.string s,.int .i64 i] w (rU w (.int .i64 (chr s i))):=by
 by_cases h:i<s.size
 ·have HE:=hO (zam h)
  have h0:(0:Int)<=(i:Int):=by omega
  have h1:(i:Int)<(s.size:Int):=by omega
  have hb:(s[i].toNat:Int)<=255:=by have:=s[i].toNat_lt;omega
  have hw8:IntKind.i64.wrap (s[i].toNat:Int)=(s[i].toNat:Int):=by rw [wI];omega
  go_enter Tryz.func55,Tryz.ntmps55;go_wp2
  go_ret
  exact ⟨by rw [HE.out];rfl,rfl⟩
 ·have HE:=hO (zau h)
  have h0:(0:Int)<=(i:Int):=by omega
  have h1:¬(i:Int)<(s.size:Int):=by omega
  go_enter Tryz.func55,Tryz.ntmps55;go_wp2
  go_ret
  exact ⟨by rw [HE.out];rfl,rfl⟩
theorem zbG (b:Int) (w:World) :
  Calls Tryz.prog 119 #[.int .i64 b] w (rU w (.bool (zaP b))):=by
 cases e92:(b==92)
 ·
  cases e93:(b==93)
  ·
   cases e91:(b==91)
   ·
    cases e94:(b==94)
    ·
     cases e45:(b==45)
     ·
      cases e37:(b==37)
      ·
       have HE:Hid (zaP b=false):=(by show zaP b=_;simp [zaP,e92,e93,e91,e94,e45,e37]);go_enter Tryz.func119,Tryz.ntmps119;go_wp2
       go_ret
       exact ⟨zaD HE.symm,rfl⟩
      ·
       have HE:Hid (zaP b=true):=(by show zaP b=_;simp [zaP,e92,e93,e91,e94,e45,e37]);go_enter Tryz.func119,Tryz.ntmps119;go_wp2
       go_ret
       exact ⟨zaD HE.symm,rfl⟩
     ·
      have HE:Hid (zaP b=true):=(by show zaP b=_;simp [zaP,e92,e93,e91,e94,e45]);go_enter Tryz.func119,Tryz.ntmps119;go_wp2
      go_ret
      exact ⟨zaD HE.symm,rfl⟩
    ·
     have HE:Hid (zaP b=true):=(by show zaP b=_;simp [zaP,e92,e93,e91,e94]);go_enter Tryz.func119,Tryz.ntmps119;go_wp2
     go_ret
     exact ⟨zaD HE.symm,rfl⟩
   ·
    have HE:Hid (zaP b=true):=(by show zaP b=_;simp [zaP,e92,e93,e91]);go_enter Tryz.func119,Tryz.ntmps119;go_wp2
    go_ret
    exact ⟨zaD HE.symm,rfl⟩
  ·
   have HE:Hid (zaP b=true):=(by show zaP b=_;simp [zaP,e92,e93]);go_enter Tryz.func119,Tryz.ntmps119;go_wp2
   go_ret
   exact ⟨zaD HE.symm,rfl⟩
 ·
  have HE:Hid (zaP b=true):=(by show zaP b=_;simp [zaP,e92]);go_enter Tryz.func119,Tryz.ntmps119;go_wp2
  go_ret
  exact ⟨zaD HE.symm,rfl⟩
theorem zbN (c:UInt8) (w:World) :
  Calls Tryz.prog 115 #[.int .u8 (c.toNat:Int)] w (rU w (.int .i64 (zaI (c.toNat:Int)))):=by
 have hc:(0:Int)<=(c.toNat:Int)/\(c.toNat:Int)<=255:=by have:=c.toNat_lt;omega
 generalize (c.toNat:Int)=n at *;obtain ⟨n0,n1⟩:=hc;by_cases h1:48<=n
 ·by_cases h2:n<=57
  ·have HE:Hid (zaI n=n - 48):=(by show zaI n=_;unfold zaI;rw [iP ⟨h1,h2⟩])
   have q1:IntKind.u8.wrap (n - 48)=n - 48:=by rw [IntKind.wrap_u8];omega
   have q2:IntKind.i64.wrap (n - 48)=n - 48:=by rw [wI];omega
   go_enter Tryz.func115,Tryz.ntmps115;go_wp2
   go_ret
   exact ⟨by rw [HE.out];rfl,rfl⟩
  ·by_cases h3:97<=n
   ·by_cases h4:n<=102
    ·have HE:Hid (zaI n=n - 87):=(by show zaI n=_;unfold zaI;rw [iN (by omega),iP ⟨h3,h4⟩])
     have q1:IntKind.u8.wrap (n - 97)=n - 97:=by rw [IntKind.wrap_u8];omega
     have q2:IntKind.i64.wrap (n - 97)=n - 97:=by rw [wI];omega
     have q3:IntKind.i64.wrap (n - 97+10)=n - 97+10:=by rw [wI];omega
     go_enter Tryz.func115,Tryz.ntmps115;go_wp2
     go_ret
     exact ⟨by rw [HE.out];exact ziJ (by omega),rfl⟩
    ·have HE:Hid (zaI n = -1):=(by show zaI n=_;unfold zaI;rw [iN (by omega),iN (by omega)])
     go_enter Tryz.func115,Tryz.ntmps115;go_wp2
     go_ret
     exact ⟨by rw [HE.out];rfl,rfl⟩
   ·have HE:Hid (zaI n = -1):=(by show zaI n=_;unfold zaI;rw [iN (by omega),iN (by omega)])
    go_enter Tryz.func115,Tryz.ntmps115;go_wp2
    go_ret
    exact ⟨by rw [HE.out];rfl,rfl⟩
 ·have h3:¬97<=n:=by omega
  have HE:Hid (zaI n = -1):=(by show zaI n=_;unfold zaI;rw [iN (by omega),iN (by omega)]);go_enter Tryz.func115,Tryz.ntmps115;go_wp2
  go_ret
  exact ⟨by rw [HE.out];rfl,rfl⟩
theorem zfu (c:Int) (w:World):Calls Tryz.prog 56 #[.int .i64 c] w (rU w (.bool (hdB c))):=by
 by_cases a1:97<=c <;> by_cases a2:c<=122 <;> by_cases a3:65<=c <;> by_cases a4:c<=90 <;> by_cases a5:c=95 <;> first
  | (exfalso;omega)
  | (subst a5;go_enter Tryz.func56,Tryz.ntmps56;go_wp2_with fail;go_ret;exact ⟨rfl,rfl⟩)
  | (have a6:(c==95)=false:=bF a5;go_enter Tryz.func56,Tryz.ntmps56;go_wp2_with fail;go_ret;exact ⟨by simp [hdB, *],rfl⟩)
theorem zes (c:Int) (w:World):Calls Tryz.prog 59 #[.int .i64 c] w (rU w (.bool (dgB c))):=by
 by_cases a1:48<=c <;> by_cases a2:c<=57 <;> first
  | (exfalso;omega)
  | (go_enter Tryz.func59,Tryz.ntmps59;go_wp2_with fail;go_ret;exact ⟨by simp [dgB, *],rfl⟩)
theorem zch (s:ByteArray) (i:Nat) (hs:s.size<=140737488355328) (hi:i<=140737488355500) (w:World):Calls Tryz.prog 61 #[.string s,.int .i64 i] w (rU w (.int .i64 (spN dgB s i))):=by
 have HA:Hid (∀k w,Cl 55 #[.string s,.int .i64 ((k:Nat):Int)] w (rU w (.int .i64 (chr s k)))):=fun k w=>za0 s k w
 have HD:Hid (∀c w,Cl 59 #[.int .i64 c] w (rU w (.bool (dgB c)))):=fun c w=>zes c w
 have HN:Hid (∀k,dgB (chr s k)=true->k<s.size/\spN dgB s k=spN dgB s (k+1)):=fun k h=>za7 (by decide) h
 have HS:Hid (∀k,dgB (chr s k)=false->spN dgB s k=k):=fun k h=>zbm h
 go_enter Tryz.func61,Tryz.ntmps61;go_wp2_with fail;go_loopw [1] (fun t wr=>∃k:Nat,k<=140737488355500/\t=.int .i64 k/\wr=w/\Hid (spN dgB s k=spN dgB s i)) (fun t _=>s.size - (intOf t).toNat)
 case atStart=>exact ⟨i,hi,rfl,rfl,rfl⟩
 case round =>
  obtain ⟨k,hk,rfl,rfl,HI⟩:=hrel;go_wp2_with fail;refine (HA _ _).mono ?_;rintro e w ⟨rfl,rfl⟩;go_wp2_with fail;refine (HD _ _).mono ?_;rintro e w ⟨rfl,rfl⟩
  cases hd:dgB (chr s k) with
  | true =>
   obtain ⟨h1,h2⟩:=HN k hd;have HI2:Hid (spN dgB s (k+1)=spN dgB s i):=h2.symm.trans HI.out;clear HA HD HN HS hd h2 HI;go_wp2_with fail;go_roundw
   case rel=>exact ⟨k+1,by omega,by go_num,trivial,HI2⟩
   case measure=>simp [intOf];omega
  | false =>
   have HI2:Hid (spN dgB s i=k):=HI.symm.trans (HS k hd);clear HA HD HN HS hd HI;go_wp2_with fail;go_ret
   exact ⟨by rw [HI2.out];rfl,rfl⟩
theorem zi5 (s:ByteArray) (i:Nat) (hs:s.size<=140737488355328) (hi:i<=140737488355500) (w:World):Calls Tryz.prog 57 #[.string s,.int .i64 i] w (rU w (.int .i64 (spN nmB s i))):=by
 have HA:Hid (∀k w,Cl 55 #[.string s,.int .i64 ((k:Nat):Int)] w (rU w (.int .i64 (chr s k)))):=fun k w=>za0 s k w
 have HD:Hid (∀c w,Cl 59 #[.int .i64 c] w (rU w (.bool (dgB c)))):=fun c w=>zes c w
 have HH:Hid (∀c w,Cl 56 #[.int .i64 c] w (rU w (.bool (hdB c)))):=fun c w=>zfu c w
 have HN:Hid (∀k,nmB (chr s k)=true->k<s.size/\spN nmB s k=spN nmB s (k+1)):=fun k h=>za7 (by decide) h
 have HS:Hid (∀k,nmB (chr s k)=false->spN nmB s k=k):=fun k h=>zbm h
 go_enter Tryz.func57,Tryz.ntmps57;go_wp2_with fail;go_loopw [1] (fun t wr=>∃k:Nat,k<=140737488355500/\t=.int .i64 k/\wr=w/\Hid (spN nmB s k=spN nmB s i)) (fun t _=>s.size - (intOf t).toNat)
 case atStart=>exact ⟨i,hi,rfl,rfl,rfl⟩
 case round =>
  obtain ⟨k,hk,rfl,rfl,HI⟩:=hrel;go_wp2_with fail;refine (HA _ _).mono ?_;rintro e w ⟨rfl,rfl⟩;go_wp2_with fail;refine (HH _ _).mono ?_;rintro e w ⟨rfl,rfl⟩
  cases hh:hdB (chr s k) with
  | true =>
   obtain ⟨h1,h2⟩:=HN k (by unfold nmB;rw [hh];rfl);have HI2:Hid (spN nmB s (k+1)=spN nmB s i):=h2.symm.trans HI.out;clear HA HD HH HN HS hh h2 HI;go_wp2_with fail;go_roundw
   case rel=>exact ⟨k+1,by omega,by go_num,trivial,HI2⟩
   case measure=>simp [intOf];omega
  | false =>
   go_wp2_with fail;refine (HA _ _).mono ?_;rintro e w ⟨rfl,rfl⟩;go_wp2_with fail;refine (HD _ _).mono ?_;rintro e w ⟨rfl,rfl⟩
   cases hd:dgB (chr s k) with
   | true =>
    obtain ⟨h1,h2⟩:=HN k (by unfold nmB;rw [hh,hd];rfl);have HI2:Hid (spN nmB s (k+1)=spN nmB s i):=h2.symm.trans HI.out;clear HA HD HH HN HS hh hd h2 HI;go_wp2_with fail;go_roundw
    case rel=>exact ⟨k+1,by omega,by go_num,trivial,HI2⟩
    case measure=>simp [intOf];omega
   | false =>
    have HI2:Hid (spN nmB s i=k):=HI.symm.trans (HS k (by unfold nmB;rw [hh,hd];rfl));clear HA HD HH HN HS hh hd HI;go_wp2_with fail;go_ret
    exact ⟨by rw [HI2.out];rfl,rfl⟩
theorem zdm (s:ByteArray) (base:Int) (hb:0<=base/\base<=16) (hs:s.size<=7) (w:World):Calls Tryz.prog 85 #[.string s,.int .i64 base] w (rU w (.int .i64 (zaF s 0 base s.size))):=by
 have HX:Hid (∀k (h:k<s.size) w,Cl 115 #[.int .u8 (s[k].toNat:Int)] w (rU w (.int .i64 (zaI (chr s k))))):=fun k h w=>by
  have:=zbN s[k] w;rw [<-zam h] at this;rw [<-zam h];exact this
 have HB:Hid (∀k,k<=7->-268435456<=zaF s 0 base k/\zaF s 0 base k<=268435456):=fun k hk=>by
  have h1:=zi0 s 0 base hb k;have h2:(16:Int) ^ k<=16 ^ 7:=by
   have:(16:Nat) ^ k<=16 ^ 7:=Nat.pow_le_pow_right (by omega) hk
   exact_mod_cast this
  omega
 go_enter Tryz.func85,Tryz.ntmps85;go_wp2_with fail;go_loopw [5,6] (fun v t wr=>∃k:Nat,k<=s.size/\t=.int .i64 k/\v=.int .i64 (zaF s 0 base k)/\wr=w) (fun _ t _=>s.size - (intOf t).toNat)
 case atStart=>exact ⟨0,by omega,by go_num,rfl,rfl⟩
 case round =>
  obtain ⟨k,hk,rfl,rfl,rfl⟩:=hrel;by_cases hlt:k<s.size
  ·have z0:(0:Int)<=(k:Int):=by omega
   have z1:(k:Int)<(s.size:Int):=by omega
   have h1:=HB k (by omega);have h2:=HB (k+1) (by omega);have HE:Hid (zaF s 0 base (k+1)=zaF s 0 base k * base+zaI (chr s k)):=by show zaF s 0 base (k+1)=_;rw [zaF,Nat.zero_add]
   have hx:=zbh (chr s k);have h3:-4294967296<=zaF s 0 base k * base/\zaF s 0 base k * base<=4294967296:=by
    rw [HE.out] at h2;omega
   have u1:IntKind.i64.wrap (zaF s 0 base k * base)=zaF s 0 base k * base:=by rw [wI];omega
   have u2:IntKind.i64.wrap (zaF s 0 base k * base+zaI (chr s k))=zaF s 0 base (k+1):=by rw [HE.out,wI];omega
   have HXk:Hid (∀w,Cl 115 #[.int .u8 (s[k].toNat:Int)] w (rU w (.int .i64 (zaI (chr s k))))):=HX k hlt;clear HX HB HE h1 h2 h3;go_wp2_with fail;refine (HXk _).mono ?_;rintro e w ⟨rfl,rfl⟩;clear HXk;go_wp2_with fail;go_roundw
   case rel=>exact ⟨k+1,by omega,by go_num,rfl,trivial⟩
   case measure=>simp [intOf];omega
  ·obtain rfl:k=s.size:=by omega
   clear HX HB;go_wp2_with fail;go_ret
   exact ⟨rfl,rfl⟩
theorem zaa (w:World) (o:Obj):Below w.heap.size w (w.alloc o):=Below.alloc (bR _ _) (nL _) o
abbrev tkC (t:Tk):Array Value:=#[.int .i64 t.kd,.int .i64 t.nn,.int .i64 t.fr,.int .i64 t.en,.string t.tx,.int .u64 t.s0,.int .u64 t.s1,.int .u64 t.s2,.int .u64 t.s3]
abbrev tkO (t:Tk):Obj:=.cells #[.int .i64 t.kd,.int .i64 t.nn,.int .i64 t.fr,.int .i64 t.en,.string t.tx,.int .u64 t.s0,.int .u64 t.s1,.int .u64 t.s2,.int .u64 t.s3] 79
structure TX (W:World) (b:Nat) (t:Tk):Prop where
 heap:W.heap[b]?=some (.cells (tkC t) 79 (0,0))
theorem TX.lt {W:World} {b:Nat} {t:Tk} (h:TX W b t):b<W.heap.size:=(Array.getElem?_eq_some_iff.1 h.heap).1
theorem TX.same {W W':World} {b:Nat} {t:Tk} (h:TX W b t) (hb:W'.heap[b]?=W.heap[b]?):TX W' b t:=⟨hb.trans h.heap⟩
theorem TX.below {W W':World} {b:Nat} {t:Tk} (h:TX W b t) (hb:Below W.heap.size W W'):TX W' b t:=h.same (hb.block b h.lt)
theorem TX.new (W:World) (t:Tk):TX (W.alloc (tkO t)) W.heap.size t:=⟨heap_alloc_new W _⟩
structure TC (W:World) (b:Nat) (t:Tk):Prop where
 c0:W.cell? ⟨b,0,none⟩=some (.int .i64 t.kd)
 c1:W.cell? ⟨b,1,none⟩=some (.int .i64 t.nn)
 c2:W.cell? ⟨b,2,none⟩=some (.int .i64 t.fr)
 c3:W.cell? ⟨b,3,none⟩=some (.int .i64 t.en)
 c4:W.cell? ⟨b,4,none⟩=some (.string t.tx)
 c5:W.cell? ⟨b,5,none⟩=some (.int .u64 t.s0)
 c6:W.cell? ⟨b,6,none⟩=some (.int .u64 t.s1)
 c7:W.cell? ⟨b,7,none⟩=some (.int .u64 t.s2)
 c8:W.cell? ⟨b,8,none⟩=some (.int .u64 t.s3)
structure TF (W:World) (b:Nat):Prop where
 f0:W.frozen? ⟨b,0,none⟩=false
 f1:W.frozen? ⟨b,1,none⟩=false
 f2:W.frozen? ⟨b,2,none⟩=false
 f3:W.frozen? ⟨b,3,none⟩=false
 f4:W.frozen? ⟨b,4,none⟩=false
 f5:W.frozen? ⟨b,5,none⟩=false
 f6:W.frozen? ⟨b,6,none⟩=false
 f7:W.frozen? ⟨b,7,none⟩=false
 f8:W.frozen? ⟨b,8,none⟩=false
theorem TX.cells {W:World} {b:Nat} {t:Tk} (h:TX W b t):TC W b t:=by
 have key:∀(j:Nat) u,(tkC t)[j]?=some u->W.cell? ⟨b,j,none⟩=some u:=fun j u hu=>by
  rw [cell_of_row W b j _ 79 (0,0) h.heap];exact hu
 exact ⟨key 0 _ rfl,key 1 _ rfl,key 2 _ rfl,key 3 _ rfl,key 4 _ rfl,key 5 _ rfl,key 6 _ rfl,key 7 _ rfl,key 8 _ rfl⟩
theorem TX.fz {W:World} {b:Nat} {t:Tk} (h:TX W b t):TF W b:=⟨frozen_of_row W b 0 _ 79 h.heap,frozen_of_row W b 1 _ 79 h.heap,frozen_of_row W b 2 _ 79 h.heap,frozen_of_row W b 3 _ 79 h.heap,frozen_of_row W b 4 _ 79 h.heap,frozen_of_row W b 5 _ 79 h.heap,frozen_of_row W b 6 _ 79 h.heap,frozen_of_row W b 7 _ 79 h.heap,frozen_of_row W b 8 _ 79 h.heap⟩
abbrev st9 (W:World) (b:Nat) (t:Tk):World:=((((((((W.setCell ⟨b,0,none⟩ (.int .i64 t.kd)).setCell ⟨b,1,none⟩ (.int .i64 t.nn)).setCell ⟨b,2,none⟩ (.int .i64 t.fr)).setCell ⟨b,3,none⟩ (.int .i64 t.en)).setCell ⟨b,4,none⟩ (.string t.tx)).setCell ⟨b,5,none⟩ (.int .u64 t.s0)).setCell ⟨b,6,none⟩ (.int .u64 t.s1)).setCell ⟨b,7,none⟩ (.int .u64 t.s2)).setCell ⟨b,8,none⟩ (.int .u64 t.s3)
theorem zar {W:World} {b:Nat} {t0:Tk} (h:TX W b t0) (t:Tk):TX (st9 W b t) b t:=by
 have h:=h.heap;have h0:=heap_setCell_same _ b 0 _ 79 (.int .i64 t.kd) h;have h1:=heap_setCell_same _ b 1 _ 79 (.int .i64 t.nn) h0;have h2:=heap_setCell_same _ b 2 _ 79 (.int .i64 t.fr) h1;have h3:=heap_setCell_same _ b 3 _ 79 (.int .i64 t.en) h2;have h4:=heap_setCell_same _ b 4 _ 79 (.string t.tx) h3;have h5:=heap_setCell_same _ b 5 _ 79 (.int .u64 t.s0) h4;have h6:=heap_setCell_same _ b 6 _ 79 (.int .u64 t.s1) h5;have h7:=heap_setCell_same _ b 7 _ 79 (.int .u64 t.s2) h6;have h8:=heap_setCell_same _ b 8 _ 79 (.int .u64 t.s3) h7;refine ⟨?_⟩;rw [h8];simp
theorem zac {B:Nat} {w W:World} {b:Nat} (h:Below B w W) (hb:B<=b) (t:Tk):Below B w (st9 W b t):=((((((((h.setCell (p:=⟨b,0,none⟩) hb _).setCell (p:=⟨b,1,none⟩) hb _).setCell (p:=⟨b,2,none⟩) hb _).setCell (p:=⟨b,3,none⟩) hb _).setCell (p:=⟨b,4,none⟩) hb _).setCell (p:=⟨b,5,none⟩) hb _).setCell (p:=⟨b,6,none⟩) hb _).setCell (p:=⟨b,7,none⟩) hb _).setCell (p:=⟨b,8,none⟩) hb _
theorem zai {fn:Func} {R:Ending->World->Prop} {a:Act} {W:World} {b:Nat} {t:Tk} {p e:Int} (hF:fn.results=#[.cell 4 79,.tmp 5,.tmp 6]) (hd:a.defers=[]) (h4:a.tmps.getD 4 undef=.pointer (some ⟨b,0,none⟩)) (h5:a.tmps.getD 5 undef=.int .i64 p) (h6:a.tmps.getD 6 undef=.int .i64 e) (hT:TX W b t) (hR:R (.returned (.tuple #[tkG t,.int .i64 p,.int .i64 e])) W):bodyPost Tryz.prog fn R .ret a W:=by
 obtain ⟨c0,c1,c2,c3,c4,c5,c6,c7,c8⟩:=hT.cells;refine bodyPost_ret (v:=.tuple #[tkG t,.int .i64 p,.int .i64 e]) ?_ hd hR;simp only [Array.getD_eq_getD_getElem?] at h4 h5 h6;simp [results,hF,go_sem,h4,h5,h6,c0,c1,c2,c3,c4,c5,c6,c7,c8]
theorem zbO (i e0:Int) (w:World):Calls Tryz.prog 58 #[.int .i64 i,.int .i64 e0] w (rB w (.tuple #[tkG tk0,.int .i64 i,.int .i64 e0])):=by
 have HX:Hid (TX (w.alloc (tkO tk0)) w.heap.size tk0):=TX.new w tk0;have HB:Hid (Below w.heap.size w (w.alloc (tkO tk0))):=zaa w _;go_enter Tryz.func58,Tryz.ntmps58;go_wp2_with fail;exact zai rfl rfl rfl rfl rfl HX.out ⟨rfl,HB.out⟩
def nuV:Sum Int Int->Value
 | .inl n=>.tuple #[.int .i64 n,.int .i64 0]
 | .inr e=>.tuple #[.int .i64 0,.int .i64 e]
theorem zbr (s:ByteArray) (a i:Nat) (most:Int) (hs:s.size<=140737488355328) (hi:i<=s.size) (w:World):Calls Tryz.prog 60 #[.string s,.int .i64 a,.int .i64 i,.int .i64 most] w (rU w (nuV (zbQ s i most))):=by
 have HD:Hid (∀w,Cl 61 #[.string s,.int .i64 i] w (rU w (.int .i64 (spN dgB s i)))):=fun w=>zch s i hs (by omega) w
 have hge:=zbd dgB s (by decide) i;have hle:=zbD dgB s (by decide) i hi;obtain ⟨n,hn⟩:∃n,n=spN dgB s i:=⟨_,rfl⟩;have HW:Hid (n - i<=6->∀w,Cl 85 #[.string (s.extract i n),.int .i64 10] w (rU w (.int .i64 (zaF s i 10 (n - i))))):=fun h6 w=>by
  have hsz:(s.extract i n).size=n - i:=by rw [ByteArray.size_extract];omega
  have h:=zdm (s.extract i n) 10 (by omega) (by omega) w;rw [hsz,zcq (by omega) (n - i) (by omega)] at h;exact h
 have HN:Hid (zbQ s i most=if n - i=0∨(1<n - i/\chr s i=48) then .inr 50 else if 6<n - i∨most<zaF s i 10 (n - i) then .inr 1 else .inl (zaF s i 10 (n - i))):=by show zbQ s i most=_;unfold zbQ;rw [<-hn]
 rw [<-hn] at HD hge hle;clear hn;have u1:IntKind.i64.wrap ((n:Int) - (i:Int))=((n - i:Nat):Int):=by rw [wI];omega
 go_enter Tryz.func60,Tryz.ntmps60;go_wp2_with fail;refine (HD _).mono ?_;rintro e w ⟨rfl,rfl⟩;clear HD;obtain ⟨m,hm⟩:∃m,m=n - i:=⟨_,rfl⟩;rw [<-hm] at HW HN u1;have hmn:i+m=n:=by omega
 have z0:(0:Int)<=(i:Int):=by omega
 have z1:(i:Int)<=(n:Int):=by omega
 have z2:(n:Int)<=(s.size:Int):=by omega
 clear hm;by_cases h0:m=0
 ·have HE:Hid (zbQ s i most=.inr 50):=by show zbQ s i most=_;rw [HN.out,iP (.inl h0)]
  have t0:((m:Int)==0)=true:=by rw [h0];rfl
  clear HN HW h0 hmn;go_wp2_with fail;go_ret2
  exact ⟨by rw [HE.out];rfl,rfl⟩
 have t0:((m:Int)==0)=false:=by rw [beq_eq_false_iff_ne];omega
 have hi2:i<s.size:=by omega
 have z3:(i:Int)<(s.size:Int):=by omega
 have hci:=zam hi2;have tail:∀(hq:¬(m=0∨(1<m/\chr s i=48))),zbQ s i most=if 6<m∨most<zaF s i 10 m then .inr 1 else .inl (zaF s i 10 m):=fun hq=>by rw [HN.out,iN hq]
 by_cases h1:1<m
 ·have t1:decide (1<m)=true:=decide_eq_true h1
  by_cases h48:chr s i=48
  ·have HE:Hid (zbQ s i most=.inr 50):=by show zbQ s i most=_;rw [HN.out,iP (.inr ⟨h1,h48⟩)]
   have t2:((s[i].toNat:Int)==48)=true:=by rw [<-hci,h48];rfl
   clear HN HW h0 hmn tail h48 hci;go_wp2_with fail;go_ret2
   exact ⟨by rw [HE.out];rfl,rfl⟩
  ·have t2:((s[i].toNat:Int)==48)=false:=by rw [<-hci];exact bF h48
   have HT:Hid (zbQ s i most=if 6<m∨most<zaF s i 10 m then .inr 1 else .inl (zaF s i 10 m)):=tail (by omega);clear HN tail h48 hci hmn;by_cases h6:6<m
   ·have t3:decide (6<m)=true:=decide_eq_true h6
    have HE:Hid (zbQ s i most=.inr 1):=by show zbQ s i most=_;rw [HT.out,iP (.inl h6)]
    clear HT HW;go_wp2_with fail;go_ret2
    exact ⟨by rw [HE.out];rfl,rfl⟩
   ·have t3:decide (6<m)=false:=dF h6
    have HW2:=hO (HW (by omega));by_cases hx:most<zaF s i 10 m
    ·have HE:Hid (zbQ s i most=.inr 1):=by show zbQ s i most=_;rw [HT.out,iP (.inr hx)]
     clear HT HW;go_wp2_with fail;refine (HW2 _).mono ?_;rintro e w ⟨rfl,rfl⟩;clear HW2;go_wp2_with fail;go_ret2
     exact ⟨by rw [HE.out];rfl,rfl⟩
    ·have HE:Hid (zbQ s i most=.inl (zaF s i 10 m)):=by show zbQ s i most=_;rw [HT.out,iN (by omega)]
     clear HT HW;go_wp2_with fail;refine (HW2 _).mono ?_;rintro e w ⟨rfl,rfl⟩;go_wp2_with fail;refine (HW2 _).mono ?_;rintro e w ⟨rfl,rfl⟩;clear HW2;go_wp2_with fail;go_ret2
     exact ⟨by rw [HE.out];rfl,rfl⟩
 ·have t1:decide (1<m)=false:=dF h1
  have HT:Hid (zbQ s i most=if 6<m∨most<zaF s i 10 m then .inr 1 else .inl (zaF s i 10 m)):=tail (by omega);clear HN tail hci hmn;have t3:decide (6<m)=false:=dF (by omega);have HW2:=hO (HW (by omega));by_cases hx:most<zaF s i 10 m
  ·have HE:Hid (zbQ s i most=.inr 1):=by show zbQ s i most=_;rw [HT.out,iP (.inr hx)]
   clear HT HW;go_wp2_with fail;refine (HW2 _).mono ?_;rintro e w ⟨rfl,rfl⟩;clear HW2;go_wp2_with fail;go_ret2
   exact ⟨by rw [HE.out];rfl,rfl⟩
  ·have HE:Hid (zbQ s i most=.inl (zaF s i 10 m)):=by show zbQ s i most=_;rw [HT.out,iN (by omega)]
   clear HT HW;go_wp2_with fail;refine (HW2 _).mono ?_;rintro e w ⟨rfl,rfl⟩;go_wp2_with fail;refine (HW2 _).mono ?_;rintro e w ⟨rfl,rfl⟩;clear HW2;go_wp2_with fail;go_ret2
   exact ⟨by rw [HE.out];rfl,rfl⟩
theorem zfv {s:ByteArray} {i:Nat} {m e:Int} (h:zbQ s i m=.inr e):e≠0:=by
 unfold zbQ at h
 split at h
 ·cases h;decide
 ·split at h
  ·cases h;decide
  ·cases h
def zcs:Sum Tk (Nat×Int)->Value
 | .inl t=>.tuple #[tkG t,.int .i64 0,.int .i64 0]
 | .inr p=>.tuple #[tkG tk0,.int .i64 p.1,.int .i64 p.2]
def lnB (c:Int):Bool:=decide (0<=c)&&!(c==10)
def ze7 (s:ByteArray):Nat->Nat->Nat
 | 0,i=>i
 | f+1,i=>if i<s.size then (if chr s i=45/\chr s (i+1)=45 then ze7 s f (spN lnB s i) else if chr s i=9∨chr s i=10∨chr s i=13∨chr s i=32 then ze7 s f (i+1) else i) else i
def zbC (s:ByteArray) (i:Nat):Nat:=ze7 s (s.size+1) i
def sgn (k:Nat):List UInt8 :=
 if k=6 then [60,45] else if k=27 then [45,62] else if k=7 then [47] else if k=8 then [38] else if k=9 then [33] else if k=10 then [63] else if k=11 then [42] else if k=12 then [43] else if k=16 then [40] else if k=17 then [41]
 else if k=18 then [46] else if k=22 then [58,125] else if k=23 then [123,124] else if k=24 then [124,125] else if k=25 then [123,126] else if k=26 then [126,125] else if k=19 then [123] else if k=20 then [125] else []
theorem zgD (s:ByteArray) (a:Nat) (hs:s.size<=140737488355328) (ha:a<=140737488355400) (w:World):Calls Tryz.prog 120 #[.string s,.int .i64 a] w (rU w (.int .i64 (zbT s a))):=by
 have HX:Hid (∀k (h:k<s.size) w,Cl 115 #[.int .u8 (s[k].toNat:Int)] w (rU w (.int .i64 (zaI (chr s k))))):=fun k h w=>by
  have:=zbN s[k] w;rw [<-zam h] at this;rw [<-zam h];exact this
 have H0:Hid (hx7 s a 7=zbT s a):=rfl;go_enter Tryz.func120,Tryz.ntmps120;go_wp2_with fail;go_loopw [5] (fun t wr=>∃i m:Nat,t=.int .i64 i/\i+m<=a+7/\a+7<=i+m/\wr=w/\Hid (hx7 s i m=zbT s a)) (fun t _=>a+7 - (intOf t).toNat)
 case atStart=>exact ⟨a,7,rfl,by omega,by omega,rfl,H0⟩
 case round =>
  obtain ⟨i,m,rfl,hm1,hm2,rfl,HI⟩:=hrel;clear H0;have z0:(0:Int)<=(i:Int):=by omega
  by_cases h1:i<s.size
  ·have t1:decide (i<s.size)=true:=decide_eq_true h1
   have z1:(i:Int)<(s.size:Int):=by omega
   cases m with
   | zero =>
    have HE:Hid (zbT s a=i):=HI.symm;have t3:¬(i:Int)<(a:Int)+7:=by omega
    clear HX HI;go_wp2_with fail;go_ret
    exact ⟨by rw [HE.out];rfl,rfl⟩
   | succ m =>
    have t3:(i:Int)<(a:Int)+7:=by omega
    have HXi:=hO (HX i h1);clear HX;by_cases hx:0<=zaI (chr s i)
    ·have HE:Hid (hx7 s (i+1) m=zbT s a):=by show _=zbT s a;rw [<-HI.out,hx7,iP hx]
     clear HI;go_wp2_with fail;refine (HXi _).mono ?_;rintro e w ⟨rfl,rfl⟩;clear HXi;go_wp2_with fail;go_roundw
     case rel=>exact ⟨i+1,m,by go_num,by omega,by omega,trivial,HE⟩
     case measure=>simp [intOf];omega
    ·have HE:Hid (zbT s a=i):=by show zbT s a=_;rw [<-HI.out,hx7,iN hx]
     clear HI;go_wp2_with fail;refine (HXi _).mono ?_;rintro e w ⟨rfl,rfl⟩;clear HXi;go_wp2_with fail;go_ret
     exact ⟨by rw [HE.out];rfl,rfl⟩
  ·have t1:¬(i:Int)<(s.size:Int):=by omega
   have HE:Hid (zbT s a=i):=by
    show zbT s a=_
    rw [<-HI.out]
    cases m with
    | zero=>rfl
    | succ m=>rw [hx7,zau h1,iN (by decide)]
   clear HX HI;go_wp2_with fail;go_ret
   exact ⟨by rw [HE.out];rfl,rfl⟩
theorem znD (s:ByteArray) (i:Nat) (hs:s.size<=140737488355328) (hi:i<=s.size) (w:World):Calls Tryz.prog 35 #[.string s,.int .i64 i] w (rU w (.int .i64 (zbC s i))):=by
 have HA:Hid (∀k w,Cl 55 #[.string s,.int .i64 (((k:Nat):Int)+1)] w (rU w (.int .i64 (chr s (k+1))))):=fun k w=>za0 s (k+1) w
 have H0:Hid (ze7 s (s.size+1) i=zbC s i):=rfl;go_enter Tryz.func35,Tryz.ntmps35;go_wp2_with fail;go_loopw [1] (fun t wr=>∃k f:Nat,t=.int .i64 k/\k<=s.size/\s.size<f+k/\wr=w/\Hid (ze7 s f k=zbC s i)) (fun t _=>s.size - (intOf t).toNat)
 case atStart=>exact ⟨i,s.size+1,rfl,hi,by omega,rfl,H0⟩
 case round =>
  obtain ⟨k,f,rfl,hk,hf,rfl,HI⟩:=hrel;clear H0;have z0:(0:Int)<=(k:Int):=by omega
  obtain ⟨f,rfl⟩:∃g,f=g+1:=⟨f - 1,by omega⟩;by_cases h1:k<s.size
  ·have z1:(k:Int)<(s.size:Int):=by omega
   have hck:=zam h1;have HU:Hid (zbC s i=if chr s k=45/\chr s (k+1)=45 then ze7 s f (spN lnB s k) else if chr s k=9∨chr s k=10∨chr s k=13∨chr s k=32 then ze7 s f (k+1) else k):=by show zbC s i=_;rw [<-HI.out,ze7,iP h1]
   clear HI;by_cases h45:chr s k=45
   ·have t1:((s[k].toNat:Int)==45)=true:=by rw [<-hck,h45];rfl
    have u9:((s[k].toNat:Int)==9)=false:=by rw [<-hck,h45];rfl
    have u10:((s[k].toNat:Int)==10)=false:=by rw [<-hck,h45];rfl
    have u13:((s[k].toNat:Int)==13)=false:=by rw [<-hck,h45];rfl
    have u32:((s[k].toNat:Int)==32)=false:=by rw [<-hck,h45];rfl
    clear hck;by_cases h46:chr s (k+1)=45
    ·have t2:(chr s (k+1)==45)=true:=by rw [h46];rfl
     have hsp:=zbW lnB s (by decide) _ k rfl;have hnx:=(za7 (P:=lnB) (s:=s) (i:=k) (by decide) (by rw [h45];rfl)).2;have hg2:=zbd lnB s (by decide) (k+1);obtain ⟨g,hg⟩:∃g,g=spN lnB s k:=⟨_,rfl⟩;rw [<-hg] at hsp hnx;have HE:Hid (ze7 s f g=zbC s i):=by show _=zbC s i;rw [HU.out,iP ⟨h45,h46⟩,hg]
     have hg1:k<g:=by omega
     have hg3:g<=s.size:=hsp.2.1 hk;have HN:Hid (∀j,lnB (chr s j)=true->spN lnB s j=spN lnB s (j+1)):=fun j h=>(za7 (by decide) h).2
     have HS:Hid (∀j,lnB (chr s j)=false->spN lnB s j=j):=fun j h=>zbm h
     have H1:Hid (spN lnB s k=g):=hg.symm;clear HU hsp hnx hg2 h45 h46 hg;go_wp2_with fail;refine (HA _ _).mono ?_;rintro e w ⟨rfl,rfl⟩;go_wp2_with fail;go_loopw [1] (fun t wr=>∃j:Nat,t=.int .i64 j/\j<=s.size/\wr=w/\Hid (spN lnB s j=g)) (fun t _=>s.size - (intOf t).toNat)
     case atStart=>exact ⟨k,rfl,hk,rfl,H1⟩
     case round =>
      obtain ⟨j,rfl,hj,rfl,HJ⟩:=hrel;clear H1;have y0:(0:Int)<=(j:Int):=by omega
      by_cases hj1:j<s.size
      ·have y1:(j:Int)<(s.size:Int):=by omega
       have hcj:=zam hj1;have hcl:=zbg s j;by_cases h10:chr s j=10
       ·have HG:Hid (j=g):=by show j=g;rw [<-HJ.out];exact (HS j (by rw [h10];rfl)).symm
        have v1:((s[j].toNat:Int)!=10)=false:=by rw [<-hcj,h10];rfl
        clear HJ HN HS hcj h10 HA;go_wp2_with fail;go_roundw
        case rel=>exact ⟨j,f,rfl,hj,by have:=HG.out;omega,trivial,by rw [HG.out];exact HE⟩
        case measure=>have:=HG.out;simp [intOf];omega
       ·have HG:Hid (spN lnB s (j+1)=g):=by
         show _=g
         rw [<-HJ.out];refine (HN j ?_).symm;unfold lnB;rw [decide_eq_true (by rw [hcj];omega),bF h10];rfl
        have v1:((s[j].toNat:Int)!=10)=true:=by rw [<-hcj,bne,bF h10];rfl
        clear HJ HN HS hcj h10 HA HE;go_wp2_with fail;go_roundw
        case rel=>exact ⟨j+1,by go_num,by omega,trivial,HG⟩
        case measure=>simp [intOf];omega
      ·obtain rfl:j=s.size:=by omega
       have y1:¬(s.size:Int)<(s.size:Int):=by omega
       have HG:Hid (s.size=g):=by show s.size=g;rw [<-HJ.out];exact (HS s.size (by rw [zau (by omega)];rfl)).symm
       clear HJ HN HS HA;go_wp2_with fail;go_roundw
       case rel=>exact ⟨s.size,f,rfl,by omega,by have:=HG.out;omega,trivial,by rw [HG.out];exact HE⟩
       case measure=>have:=HG.out;simp [intOf];omega
    ·have t2:(chr s (k+1)==45)=false:=bF h46
     have HE:Hid (zbC s i=k):=by show zbC s i=_;rw [HU.out,iN (fun q=>h46 q.2),iN (by omega)]
     clear HU h45 h46;go_wp2_with fail;refine (HA _ _).mono ?_;rintro e w ⟨rfl,rfl⟩;clear HA;go_wp2_with fail;go_ret
     exact ⟨by rw [HE.out];rfl,rfl⟩
   ·have t1:((s[k].toNat:Int)==45)=false:=by rw [<-hck];exact bF h45
    by_cases hbl:chr s k=9∨chr s k=10∨chr s k=13∨chr s k=32
    ·have HE:Hid (ze7 s f (k+1)=zbC s i):=by show _=zbC s i;rw [HU.out,iN (fun q=>h45 q.1),iP hbl]
     clear HU HA h45
     rcases hbl with q | q | q | q
     ·have u9:((s[k].toNat:Int)==9)=true:=by rw [<-hck,q];rfl
      clear hck q;go_wp2_with fail;go_roundw
      case rel=>exact ⟨k+1,f,by go_num,by omega,by omega,trivial,HE⟩
      case measure=>simp [intOf];omega
     ·have u9:((s[k].toNat:Int)==9)=false:=by rw [<-hck,q];rfl
      have u10:((s[k].toNat:Int)==10)=true:=by rw [<-hck,q];rfl
      clear hck q;go_wp2_with fail;go_roundw
      case rel=>exact ⟨k+1,f,by go_num,by omega,by omega,trivial,HE⟩
      case measure=>simp [intOf];omega
     ·have u9:((s[k].toNat:Int)==9)=false:=by rw [<-hck,q];rfl
      have u10:((s[k].toNat:Int)==10)=false:=by rw [<-hck,q];rfl
      have u13:((s[k].toNat:Int)==13)=true:=by rw [<-hck,q];rfl
      clear hck q;go_wp2_with fail;go_roundw
      case rel=>exact ⟨k+1,f,by go_num,by omega,by omega,trivial,HE⟩
      case measure=>simp [intOf];omega
     ·have u9:((s[k].toNat:Int)==9)=false:=by rw [<-hck,q];rfl
      have u10:((s[k].toNat:Int)==10)=false:=by rw [<-hck,q];rfl
      have u13:((s[k].toNat:Int)==13)=false:=by rw [<-hck,q];rfl
      have u32:((s[k].toNat:Int)==32)=true:=by rw [<-hck,q];rfl
      clear hck q;go_wp2_with fail;go_roundw
      case rel=>exact ⟨k+1,f,by go_num,by omega,by omega,trivial,HE⟩
      case measure=>simp [intOf];omega
    ·have HE:Hid (zbC s i=k):=by show zbC s i=_;rw [HU.out,iN (fun q=>h45 q.1),iN hbl]
     have u9:((s[k].toNat:Int)==9)=false:=by rw [<-hck,beq_eq_false_iff_ne];omega
     have u10:((s[k].toNat:Int)==10)=false:=by rw [<-hck,beq_eq_false_iff_ne];omega
     have u13:((s[k].toNat:Int)==13)=false:=by rw [<-hck,beq_eq_false_iff_ne];omega
     have u32:((s[k].toNat:Int)==32)=false:=by rw [<-hck,beq_eq_false_iff_ne];omega
     clear HU HA h45 hck hbl;go_wp2_with fail;go_ret
     exact ⟨by rw [HE.out];rfl,rfl⟩
  ·obtain rfl:k=s.size:=by omega
   have t1:¬(s.size:Int)<(s.size:Int):=by omega
   have HE:Hid (zbC s i=s.size):=by show zbC s i=_;rw [<-HI.out,ze7,iN (by omega)]
   clear HI HA;go_wp2_with fail;go_ret
   exact ⟨by rw [HE.out];rfl,rfl⟩
end Go.Proofs.YtkihfkcmcdiajaaGreatDoor
