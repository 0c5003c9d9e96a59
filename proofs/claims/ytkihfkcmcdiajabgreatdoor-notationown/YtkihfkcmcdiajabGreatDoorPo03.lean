import Derived.Lib.AtoiErrMem
import Derived.Deep.AppendLies
import Derived.Test.YtkihfkcmcdiajabGreatDoorPo02
set_option maxRecDepth 100000
set_option maxHeartbeats 8000000
namespace Go.Proofs.YtkihfkcmcdiajabGreatDoor
open Go.RowKit
theorem za0 (s:ByteArray) (i:Nat) (w:World) :
  Cl 40 #[.string s,.int .i64 i] w (rU w (.int .i64 (chr s i))):=by
 by_cases h:i<s.size
 ·have HE:=hO (zam h)
  have h0:(0:Int)<=(i:Int):=by omega
  have h1:(i:Int)<(s.size:Int):=by omega
  have hb:(s[i].toNat:Int)<=255:=by have:=s[i].toNat_lt;omega
  have hw8:IntKind.i64.wrap (s[i].toNat:Int)=(s[i].toNat:Int):=by rw [wI];omega
  go_enter Tryz.func40,Tryz.ntmps40;go_wp2
  go_ret
  exact ⟨by rw [HE.out];rfl,rfl⟩
 ·have HE:=hO (zau h)
  have h0:(0:Int)<=(i:Int):=by omega
  have h1:¬(i:Int)<(s.size:Int):=by omega
  go_enter Tryz.func40,Tryz.ntmps40;go_wp2
  go_ret
  exact ⟨by rw [HE.out];rfl,rfl⟩
theorem zbI (b:Int) (w:World) :
  Cl 95 #[.int .i64 b] w (rU w (.bool (zaQ b))):=by
 cases e92:(b==92)
 ·
  cases e93:(b==93)
  ·
   cases e91:(b==91)
   ·
    cases e94:(b==94)
    ·
     cases e45:(b==45)
     ·
      cases e37:(b==37)
      ·
       have HE:Hid (zaQ b=false):=(by show zaQ b=_;simp [zaQ,e92,e93,e91,e94,e45,e37]);go_enter Tryz.func95,Tryz.ntmps95;go_wp2
       go_ret
       exact ⟨zaD HE.symm,rfl⟩
      ·
       have HE:Hid (zaQ b=true):=(by show zaQ b=_;simp [zaQ,e92,e93,e91,e94,e45,e37]);go_enter Tryz.func95,Tryz.ntmps95;go_wp2
       go_ret
       exact ⟨zaD HE.symm,rfl⟩
     ·
      have HE:Hid (zaQ b=true):=(by show zaQ b=_;simp [zaQ,e92,e93,e91,e94,e45]);go_enter Tryz.func95,Tryz.ntmps95;go_wp2
      go_ret
      exact ⟨zaD HE.symm,rfl⟩
    ·
     have HE:Hid (zaQ b=true):=(by show zaQ b=_;simp [zaQ,e92,e93,e91,e94]);go_enter Tryz.func95,Tryz.ntmps95;go_wp2
     go_ret
     exact ⟨zaD HE.symm,rfl⟩
   ·
    have HE:Hid (zaQ b=true):=(by show zaQ b=_;simp [zaQ,e92,e93,e91]);go_enter Tryz.func95,Tryz.ntmps95;go_wp2
    go_ret
    exact ⟨zaD HE.symm,rfl⟩
  ·
   have HE:Hid (zaQ b=true):=(by show zaQ b=_;simp [zaQ,e92,e93]);go_enter Tryz.func95,Tryz.ntmps95;go_wp2
   go_ret
   exact ⟨zaD HE.symm,rfl⟩
 ·
  have HE:Hid (zaQ b=true):=(by show zaQ b=_;simp [zaQ,e92]);go_enter Tryz.func95,Tryz.ntmps95;go_wp2
  go_ret
  exact ⟨zaD HE.symm,rfl⟩
theorem zbO (c:UInt8) (w:World) :
  Cl 91 #[.int .u8 (c.toNat:Int)] w (rU w (.int .i64 (zaI (c.toNat:Int)))):=by
 have hc:(0:Int)<=(c.toNat:Int)/\(c.toNat:Int)<=255:=by have:=c.toNat_lt;omega
 generalize (c.toNat:Int)=n at *;obtain ⟨n0,n1⟩:=hc;by_cases h1:48<=n
 ·by_cases h2:n<=57
  ·have HE:Hid (zaI n=n - 48):=(by show zaI n=_;unfold zaI;rw [iP ⟨h1,h2⟩])
   have q1:IntKind.u8.wrap (n - 48)=n - 48:=by rw [IntKind.wrap_u8];omega
   have q2:IntKind.i64.wrap (n - 48)=n - 48:=by rw [wI];omega
   go_enter Tryz.func91,Tryz.ntmps91;go_wp2
   go_ret
   exact ⟨by rw [HE.out];rfl,rfl⟩
  ·by_cases h3:97<=n
   ·by_cases h4:n<=102
    ·have HE:Hid (zaI n=n - 87):=(by show zaI n=_;unfold zaI;rw [iN (by omega),iP ⟨h3,h4⟩])
     have q1:IntKind.u8.wrap (n - 97)=n - 97:=by rw [IntKind.wrap_u8];omega
     have q2:IntKind.i64.wrap (n - 97)=n - 97:=by rw [wI];omega
     have q3:IntKind.i64.wrap (n - 97+10)=n - 97+10:=by rw [wI];omega
     go_enter Tryz.func91,Tryz.ntmps91;go_wp2
     go_ret
     exact ⟨by rw [HE.out];exact ziS (by omega),rfl⟩
    ·have HE:Hid (zaI n = -1):=(by show zaI n=_;unfold zaI;rw [iN (by omega),iN (by omega)])
     go_enter Tryz.func91,Tryz.ntmps91;go_wp2
     go_ret
     exact ⟨by rw [HE.out];rfl,rfl⟩
   ·have HE:Hid (zaI n = -1):=(by show zaI n=_;unfold zaI;rw [iN (by omega),iN (by omega)])
    go_enter Tryz.func91,Tryz.ntmps91;go_wp2
    go_ret
    exact ⟨by rw [HE.out];rfl,rfl⟩
 ·have h3:¬97<=n:=by omega
  have HE:Hid (zaI n = -1):=(by show zaI n=_;unfold zaI;rw [iN (by omega),iN (by omega)]);go_enter Tryz.func91,Tryz.ntmps91;go_wp2
  go_ret
  exact ⟨by rw [HE.out];rfl,rfl⟩
theorem zfy (c:Int) (w:World):Cl 41 #[.int .i64 c] w (rU w (.bool (hdB c))):=by
 by_cases a1:97<=c <;> by_cases a2:c<=122 <;> by_cases a3:65<=c <;> by_cases a4:c<=90 <;> by_cases a5:c=95 <;> first
  | (exfalso;omega)
  | (subst a5;go_enter Tryz.func41,Tryz.ntmps41;go_wp2_with fail;go_ret;exact ⟨rfl,rfl⟩)
  | (have a6:(c==95)=false:=bF a5;go_enter Tryz.func41,Tryz.ntmps41;go_wp2_with fail;go_ret;exact ⟨by simp [hdB, *],rfl⟩)
theorem zet (c:Int) (w:World):Cl 44 #[.int .i64 c] w (rU w (.bool (dgB c))):=by
 by_cases a1:48<=c <;> by_cases a2:c<=57 <;> first
  | (exfalso;omega)
  | (go_enter Tryz.func44,Tryz.ntmps44;go_wp2_with fail;go_ret;exact ⟨by simp [dgB, *],rfl⟩)
theorem zcj (s:ByteArray) (i:Nat) (hs:s.size<=140737488355328) (hi:i<=140737488355500) (w:World):Cl 46 #[.string s,.int .i64 i] w (rU w (.int .i64 (spN dgB s i))):=by
 have HA:Hid (∀k w,Cl 40 #[.string s,.int .i64 ((k:Nat):Int)] w (rU w (.int .i64 (chr s k)))):=fun k w=>za0 s k w
 have HD:Hid (∀c w,Cl 44 #[.int .i64 c] w (rU w (.bool (dgB c)))):=fun c w=>zet c w
 have HN:Hid (∀k,dgB (chr s k)=true->k<s.size/\spN dgB s k=spN dgB s (k+1)):=fun k h=>za8 (by decide) h
 have HS:Hid (∀k,dgB (chr s k)=false->spN dgB s k=k):=fun k h=>zbo h
 go_enter Tryz.func46,Tryz.ntmps46;go_wp2_with fail;go_loopw [1] (fun t wr=>∃k:Nat,k<=140737488355500/\t=.int .i64 k/\wr=w/\Hid (spN dgB s k=spN dgB s i)) (fun t _=>s.size - (intOf t).toNat)
 case atStart=>exact ⟨i,hi,rfl,rfl,rfl⟩
 case round =>
  obtain ⟨k,hk,rfl,rfl,HI⟩:=hrel;go_wp2_with fail;refine (HA _ _).mono ?_;rintro e w ⟨rfl,rfl⟩;go_wp2_with fail;refine (HD _ _).mono ?_;rintro e w ⟨rfl,rfl⟩
  cases hd:dgB (chr s k) with
  | true =>
   obtain ⟨h1,h2⟩:=HN k hd;have HI2:Hid (spN dgB s (k+1)=spN dgB s i):=h2.symm.trans HI.out;clear HA HD HN HS hd h2 HI;go_wp2_with fail;go_roundw
   case rel=>exact ⟨k+1,by omega,by go_num,trivial,HI2⟩
   case measure=>simp [intOf];omega
  | false =>
   have HI2:Hid (spN dgB s i=k):=HI.symm.trans (HS k hd);clear HA HD HN HS hd HI;go_wp2_with fail;go_ret
   exact ⟨by rw [HI2.out];rfl,rfl⟩
theorem zjf (s:ByteArray) (i:Nat) (hs:s.size<=140737488355328) (hi:i<=140737488355500) (w:World):Cl 42 #[.string s,.int .i64 i] w (rU w (.int .i64 (spN nmB s i))):=by
 have HA:Hid (∀k w,Cl 40 #[.string s,.int .i64 ((k:Nat):Int)] w (rU w (.int .i64 (chr s k)))):=fun k w=>za0 s k w
 have HD:Hid (∀c w,Cl 44 #[.int .i64 c] w (rU w (.bool (dgB c)))):=fun c w=>zet c w
 have HH:Hid (∀c w,Cl 41 #[.int .i64 c] w (rU w (.bool (hdB c)))):=fun c w=>zfy c w
 have HN:Hid (∀k,nmB (chr s k)=true->k<s.size/\spN nmB s k=spN nmB s (k+1)):=fun k h=>za8 (by decide) h
 have HS:Hid (∀k,nmB (chr s k)=false->spN nmB s k=k):=fun k h=>zbo h
 go_enter Tryz.func42,Tryz.ntmps42;go_wp2_with fail;go_loopw [1] (fun t wr=>∃k:Nat,k<=140737488355500/\t=.int .i64 k/\wr=w/\Hid (spN nmB s k=spN nmB s i)) (fun t _=>s.size - (intOf t).toNat)
 case atStart=>exact ⟨i,hi,rfl,rfl,rfl⟩
 case round =>
  obtain ⟨k,hk,rfl,rfl,HI⟩:=hrel;go_wp2_with fail;refine (HA _ _).mono ?_;rintro e w ⟨rfl,rfl⟩;go_wp2_with fail;refine (HH _ _).mono ?_;rintro e w ⟨rfl,rfl⟩
  cases hh:hdB (chr s k) with
  | true =>
   obtain ⟨h1,h2⟩:=HN k (by unfold nmB;rw [hh];rfl);have HI2:Hid (spN nmB s (k+1)=spN nmB s i):=h2.symm.trans HI.out;clear HA HD HH HN HS hh h2 HI;go_wp2_with fail;go_roundw
   case rel=>exact ⟨k+1,by omega,by go_num,trivial,HI2⟩
   case measure=>simp [intOf];omega
  | false =>
   go_wp2_with fail;refine (HA _ _).mono ?_;rintro e w ⟨rfl,rfl⟩;go_wp2_with fail;refine (HD _ _).mono ?_;rintro e w ⟨rfl,rfl⟩
   cases hd:dgB (chr s k) with
   | true =>
    obtain ⟨h1,h2⟩:=HN k (by unfold nmB;rw [hh,hd];rfl);have HI2:Hid (spN nmB s (k+1)=spN nmB s i):=h2.symm.trans HI.out;clear HA HD HH HN HS hh hd h2 HI;go_wp2_with fail;go_roundw
    case rel=>exact ⟨k+1,by omega,by go_num,trivial,HI2⟩
    case measure=>simp [intOf];omega
   | false =>
    have HI2:Hid (spN nmB s i=k):=HI.symm.trans (HS k (by unfold nmB;rw [hh,hd];rfl));clear HA HD HH HN HS hh hd HI;go_wp2_with fail;go_ret
    exact ⟨by rw [HI2.out];rfl,rfl⟩
theorem zdm (s:ByteArray) (base:Int) (hb:0<=base/\base<=16) (hs:s.size<=7) (w:World):Cl 64 #[.string s,.int .i64 base] w (rU w (.int .i64 (zaF s 0 base s.size))):=by
 have HX:Hid (∀k (h:k<s.size) w,Cl 91 #[.int .u8 (s[k].toNat:Int)] w (rU w (.int .i64 (zaI (chr s k))))):=fun k h w=>by
  have:=zbO s[k] w;rw [<-zam h] at this;rw [<-zam h];exact this
 have HB:Hid (∀k,k<=7->-268435456<=zaF s 0 base k/\zaF s 0 base k<=268435456):=fun k hk=>by
  have h1:=zi9 s 0 base hb k;have h2:(16:Int) ^ k<=16 ^ 7:=by
   have:(16:Nat) ^ k<=16 ^ 7:=Nat.pow_le_pow_right (by omega) hk
   exact_mod_cast this
  omega
 go_enter Tryz.func64,Tryz.ntmps64;go_wp2_with fail;go_loopw [5,6] (fun v t wr=>∃k:Nat,k<=s.size/\t=.int .i64 k/\v=.int .i64 (zaF s 0 base k)/\wr=w) (fun _ t _=>s.size - (intOf t).toNat)
 case atStart=>exact ⟨0,by omega,by go_num,rfl,rfl⟩
 case round =>
  obtain ⟨k,hk,rfl,rfl,rfl⟩:=hrel;by_cases hlt:k<s.size
  ·have z0:(0:Int)<=(k:Int):=by omega
   have z1:(k:Int)<(s.size:Int):=by omega
   have h1:=HB k (by omega);have h2:=HB (k+1) (by omega);have HE:Hid (zaF s 0 base (k+1)=zaF s 0 base k * base+zaI (chr s k)):=by show zaF s 0 base (k+1)=_;rw [zaF,Nat.zero_add]
   have hx:=zbj (chr s k);have h3:-4294967296<=zaF s 0 base k * base/\zaF s 0 base k * base<=4294967296:=by
    rw [HE.out] at h2;omega
   have u1:IntKind.i64.wrap (zaF s 0 base k * base)=zaF s 0 base k * base:=by rw [wI];omega
   have u2:IntKind.i64.wrap (zaF s 0 base k * base+zaI (chr s k))=zaF s 0 base (k+1):=by rw [HE.out,wI];omega
   have HXk:Hid (∀w,Cl 91 #[.int .u8 (s[k].toNat:Int)] w (rU w (.int .i64 (zaI (chr s k))))):=HX k hlt;clear HX HB HE h1 h2 h3;go_wp2_with fail;refine (HXk _).mono ?_;rintro e w ⟨rfl,rfl⟩;clear HXk;go_wp2_with fail;go_roundw
   case rel=>exact ⟨k+1,by omega,by go_num,rfl,trivial⟩
   case measure=>simp [intOf];omega
  ·obtain rfl:k=s.size:=by omega
   clear HX HB;go_wp2_with fail;go_ret
   exact ⟨rfl,rfl⟩
theorem zaa (w:World) (o:Obj):bW w (w.alloc o):=Below.alloc (bR _ _) (nL _) o
abbrev tkC (t:Tk):Array Value:=#[.int .i64 t.kd,.int .i64 t.nn,.int .i64 t.fr,.int .i64 t.en,.string t.tx,.int .u64 t.s0,.int .u64 t.s1,.int .u64 t.s2,.int .u64 t.s3]
abbrev tkO (t:Tk):Obj:=.cells #[.int .i64 t.kd,.int .i64 t.nn,.int .i64 t.fr,.int .i64 t.en,.string t.tx,.int .u64 t.s0,.int .u64 t.s1,.int .u64 t.s2,.int .u64 t.s3] 69
structure TX (W:World) (b:Nat) (t:Tk):Prop where
 heap:W.heap[b]?=some (.cells (tkC t) 69 (0,0))
theorem TX.lt {W:World} {b:Nat} {t:Tk} (h:TX W b t):b<W.heap.size:=(Array.getElem?_eq_some_iff.1 h.heap).1
theorem TX.same {W W':World} {b:Nat} {t:Tk} (h:TX W b t) (hb:W'.heap[b]?=W.heap[b]?):TX W' b t:=⟨hb.trans h.heap⟩
theorem TX.below {W W':World} {b:Nat} {t:Tk} (h:TX W b t) (hb:bW W W'):TX W' b t:=h.same (hb.block b h.lt)
theorem TX.new (W:World) (t:Tk):TX (W.alloc (tkO t)) W.heap.size t:=⟨heap_alloc_new W _⟩
structure TC (W:World) (b:Nat) (t:Tk):Prop where
 c0:W.cell? ⟨b,0,none⟩=some (.int .i64 t.kd)
 c1:W.cell? ⟨b,1,none⟩=some (.int .i64 t.nn)
 c2:W.cell? ⟨b,2,none⟩=some (.int .i64 t.fr)
 c3:W.cell? ⟨b,3,none⟩=some (.int .i64 t.en)
 c4:W.cell? ⟨b,4,none⟩=some (.string t.tx)
 c5:W.cell? ⟨b,5,none⟩=some (.int .u64 t.s0)
 c6:W.cell? ⟨b,6,none⟩=some (.int .u64 t.s1)
 c7:W.cell? ⟨b,7,none⟩=some (.int .u64 t.s2)
 c8:W.cell? ⟨b,8,none⟩=some (.int .u64 t.s3)
structure TF (W:World) (b:Nat):Prop where
 f0:W.frozen? ⟨b,0,none⟩=false
 f1:W.frozen? ⟨b,1,none⟩=false
 f2:W.frozen? ⟨b,2,none⟩=false
 f3:W.frozen? ⟨b,3,none⟩=false
 f4:W.frozen? ⟨b,4,none⟩=false
 f5:W.frozen? ⟨b,5,none⟩=false
 f6:W.frozen? ⟨b,6,none⟩=false
 f7:W.frozen? ⟨b,7,none⟩=false
 f8:W.frozen? ⟨b,8,none⟩=false
theorem TX.cells {W:World} {b:Nat} {t:Tk} (h:TX W b t):TC W b t:=by
 have key:∀(j:Nat) u,(tkC t)[j]?=some u->W.cell? ⟨b,j,none⟩=some u:=fun j u hu=>by
  rw [cell_of_row W b j _ 69 (0,0) h.heap];exact hu
 exact ⟨key 0 _ rfl,key 1 _ rfl,key 2 _ rfl,key 3 _ rfl,key 4 _ rfl,key 5 _ rfl,key 6 _ rfl,key 7 _ rfl,key 8 _ rfl⟩
theorem TX.fz {W:World} {b:Nat} {t:Tk} (h:TX W b t):TF W b:=⟨frozen_of_row W b 0 _ 69 h.heap,frozen_of_row W b 1 _ 69 h.heap,frozen_of_row W b 2 _ 69 h.heap,frozen_of_row W b 3 _ 69 h.heap,frozen_of_row W b 4 _ 69 h.heap,frozen_of_row W b 5 _ 69 h.heap,frozen_of_row W b 6 _ 69 h.heap,frozen_of_row W b 7 _ 69 h.heap,frozen_of_row W b 8 _ 69 h.heap⟩
abbrev st9 (W:World) (b:Nat) (t:Tk):World:=((((((((W.setCell ⟨b,0,none⟩ (.int .i64 t.kd)).setCell ⟨b,1,none⟩ (.int .i64 t.nn)).setCell ⟨b,2,none⟩ (.int .i64 t.fr)).setCell ⟨b,3,none⟩ (.int .i64 t.en)).setCell ⟨b,4,none⟩ (.string t.tx)).setCell ⟨b,5,none⟩ (.int .u64 t.s0)).setCell ⟨b,6,none⟩ (.int .u64 t.s1)).setCell ⟨b,7,none⟩ (.int .u64 t.s2)).setCell ⟨b,8,none⟩ (.int .u64 t.s3)
theorem zar {W:World} {b:Nat} {t0:Tk} (h:TX W b t0) (t:Tk):TX (st9 W b t) b t:=by
 have h:=h.heap;have h0:=heap_setCell_same _ b 0 _ 69 (.int .i64 t.kd) h;have h1:=heap_setCell_same _ b 1 _ 69 (.int .i64 t.nn) h0;have h2:=heap_setCell_same _ b 2 _ 69 (.int .i64 t.fr) h1;have h3:=heap_setCell_same _ b 3 _ 69 (.int .i64 t.en) h2;have h4:=heap_setCell_same _ b 4 _ 69 (.string t.tx) h3;have h5:=heap_setCell_same _ b 5 _ 69 (.int .u64 t.s0) h4;have h6:=heap_setCell_same _ b 6 _ 69 (.int .u64 t.s1) h5;have h7:=heap_setCell_same _ b 7 _ 69 (.int .u64 t.s2) h6;have h8:=heap_setCell_same _ b 8 _ 69 (.int .u64 t.s3) h7;refine ⟨?_⟩;rw [h8];simp
theorem zac {B:Nat} {w W:World} {b:Nat} (h:Below B w W) (hb:B<=b) (t:Tk):Below B w (st9 W b t):=((((((((h.setCell (p:=⟨b,0,none⟩) hb _).setCell (p:=⟨b,1,none⟩) hb _).setCell (p:=⟨b,2,none⟩) hb _).setCell (p:=⟨b,3,none⟩) hb _).setCell (p:=⟨b,4,none⟩) hb _).setCell (p:=⟨b,5,none⟩) hb _).setCell (p:=⟨b,6,none⟩) hb _).setCell (p:=⟨b,7,none⟩) hb _).setCell (p:=⟨b,8,none⟩) hb _
theorem zai {fn:Func} {R:Ending->World->Prop} {a:Act} {W:World} {b:Nat} {t:Tk} {p e:Int} (hF:fn.results=#[.cell 4 69,.tmp 5,.tmp 6]) (hd:a.defers=[]) (h4:a.tmps.getD 4 undef=.pointer (some ⟨b,0,none⟩)) (h5:a.tmps.getD 5 undef=.int .i64 p) (h6:a.tmps.getD 6 undef=.int .i64 e) (hT:TX W b t) (hR:R (.returned (.tuple #[tkG t,.int .i64 p,.int .i64 e])) W):bodyPost Tryz.prog fn R .ret a W:=by
 obtain ⟨c0,c1,c2,c3,c4,c5,c6,c7,c8⟩:=hT.cells;refine bodyPost_ret (v:=.tuple #[tkG t,.int .i64 p,.int .i64 e]) ?_ hd hR;simp only [Array.getD_eq_getD_getElem?] at h4 h5 h6;simp [results,hF,go_sem,h4,h5,h6,c0,c1,c2,c3,c4,c5,c6,c7,c8]
theorem zbP (i e0:Int) (w:World):Cl 43 #[.int .i64 i,.int .i64 e0] w (rB w (.tuple #[tkG tk0,.int .i64 i,.int .i64 e0])):=by
 have HX:Hid (TX (w.alloc (tkO tk0)) w.heap.size tk0):=TX.new w tk0;have HB:Hid (bW w (w.alloc (tkO tk0))):=zaa w _;go_enter Tryz.func43,Tryz.ntmps43;go_wp2_with fail;exact zai rfl rfl rfl rfl rfl HX.out ⟨rfl,HB.out⟩
def nuV:Sum Int Int->Value
 | .inl n=>.tuple #[.int .i64 n,.int .i64 0]
 | .inr e=>.tuple #[.int .i64 0,.int .i64 e]
theorem zbs (s:ByteArray) (a i:Nat) (most:Int) (hs:s.size<=140737488355328) (hi:i<=s.size) (w:World):Cl 45 #[.string s,.int .i64 a,.int .i64 i,.int .i64 most] w (rU w (nuV (zbR s i most))):=by
 have HD:Hid (∀w,Cl 46 #[.string s,.int .i64 i] w (rU w (.int .i64 (spN dgB s i)))):=fun w=>zcj s i hs (by omega) w
 have hge:=zbe dgB s (by decide) i;have hle:=zbF dgB s (by decide) i hi;obtain ⟨n,hn⟩:∃n,n=spN dgB s i:=⟨_,rfl⟩;have HW:Hid (n - i<=6->∀w,Cl 64 #[.string (s.extract i n),.int .i64 10] w (rU w (.int .i64 (zaF s i 10 (n - i))))):=fun h6 w=>by
  have hsz:(s.extract i n).size=n - i:=by rw [ByteArray.size_extract];omega
  have h:=zdm (s.extract i n) 10 (by omega) (by omega) w;rw [hsz,zcr (by omega) (n - i) (by omega)] at h;exact h
 have HN:Hid (zbR s i most=if n - i=0∨(1<n - i/\chr s i=48) then .inr 50 else if 6<n - i∨most<zaF s i 10 (n - i) then .inr 1 else .inl (zaF s i 10 (n - i))):=by show zbR s i most=_;unfold zbR;rw [<-hn]
 rw [<-hn] at HD hge hle;clear hn;have u1:IntKind.i64.wrap ((n:Int) - (i:Int))=((n - i:Nat):Int):=by rw [wI];omega
 go_enter Tryz.func45,Tryz.ntmps45;go_wp2_with fail;refine (HD _).mono ?_;rintro e w ⟨rfl,rfl⟩;clear HD;obtain ⟨m,hm⟩:∃m,m=n - i:=⟨_,rfl⟩;rw [<-hm] at HW HN u1;have hmn:i+m=n:=by omega
 have z0:(0:Int)<=(i:Int):=by omega
 have z1:(i:Int)<=(n:Int):=by omega
 have z2:(n:Int)<=(s.size:Int):=by omega
 clear hm;by_cases h0:m=0
 ·have HE:Hid (zbR s i most=.inr 50):=by show zbR s i most=_;rw [HN.out,iP (.inl h0)]
  have t0:((m:Int)==0)=true:=by rw [h0];rfl
  clear HN HW h0 hmn;go_wp2_with fail;go_ret2
  exact ⟨by rw [HE.out];rfl,rfl⟩
 have t0:((m:Int)==0)=false:=by rw [beq_eq_false_iff_ne];omega
 have hi2:i<s.size:=by omega
 have z3:(i:Int)<(s.size:Int):=by omega
 have hci:=zam hi2;have tail:∀(hq:¬(m=0∨(1<m/\chr s i=48))),zbR s i most=if 6<m∨most<zaF s i 10 m then .inr 1 else .inl (zaF s i 10 m):=fun hq=>by rw [HN.out,iN hq]
 by_cases h1:1<m
 ·have t1:decide (1<m)=true:=decide_eq_true h1
  by_cases h48:chr s i=48
  ·have HE:Hid (zbR s i most=.inr 50):=by show zbR s i most=_;rw [HN.out,iP (.inr ⟨h1,h48⟩)]
   have t2:((s[i].toNat:Int)==48)=true:=by rw [<-hci,h48];rfl
   clear HN HW h0 hmn tail h48 hci;go_wp2_with fail;go_ret2
   exact ⟨by rw [HE.out];rfl,rfl⟩
  ·have t2:((s[i].toNat:Int)==48)=false:=by rw [<-hci];exact bF h48
   have HT:Hid (zbR s i most=if 6<m∨most<zaF s i 10 m then .inr 1 else .inl (zaF s i 10 m)):=tail (by omega);clear HN tail h48 hci hmn;by_cases h6:6<m
   ·have t3:decide (6<m)=true:=decide_eq_true h6
    have HE:Hid (zbR s i most=.inr 1):=by show zbR s i most=_;rw [HT.out,iP (.inl h6)]
    clear HT HW;go_wp2_with fail;go_ret2
    exact ⟨by rw [HE.out];rfl,rfl⟩
   ·have t3:decide (6<m)=false:=dF h6
    have HW2:=hO (HW (by omega));by_cases hx:most<zaF s i 10 m
    ·have HE:Hid (zbR s i most=.inr 1):=by show zbR s i most=_;rw [HT.out,iP (.inr hx)]
     clear HT HW;go_wp2_with fail;refine (HW2 _).mono ?_;rintro e w ⟨rfl,rfl⟩;clear HW2;go_wp2_with fail;go_ret2
     exact ⟨by rw [HE.out];rfl,rfl⟩
    ·have HE:Hid (zbR s i most=.inl (zaF s i 10 m)):=by show zbR s i most=_;rw [HT.out,iN (by omega)]
     clear HT HW;go_wp2_with fail;refine (HW2 _).mono ?_;rintro e w ⟨rfl,rfl⟩;go_wp2_with fail;refine (HW2 _).mono ?_;rintro e w ⟨rfl,rfl⟩;clear HW2;go_wp2_with fail;go_ret2
     exact ⟨by rw [HE.out];rfl,rfl⟩
 ·have t1:decide (1<m)=false:=dF h1
  have HT:Hid (zbR s i most=if 6<m∨most<zaF s i 10 m then .inr 1 else .inl (zaF s i 10 m)):=tail (by omega);clear HN tail hci hmn;have t3:decide (6<m)=false:=dF (by omega);have HW2:=hO (HW (by omega));by_cases hx:most<zaF s i 10 m
  ·have HE:Hid (zbR s i most=.inr 1):=by show zbR s i most=_;rw [HT.out,iP (.inr hx)]
   clear HT HW;go_wp2_with fail;refine (HW2 _).mono ?_;rintro e w ⟨rfl,rfl⟩;clear HW2;go_wp2_with fail;go_ret2
   exact ⟨by rw [HE.out];rfl,rfl⟩
  ·have HE:Hid (zbR s i most=.inl (zaF s i 10 m)):=by show zbR s i most=_;rw [HT.out,iN (by omega)]
   clear HT HW;go_wp2_with fail;refine (HW2 _).mono ?_;rintro e w ⟨rfl,rfl⟩;go_wp2_with fail;refine (HW2 _).mono ?_;rintro e w ⟨rfl,rfl⟩;clear HW2;go_wp2_with fail;go_ret2
   exact ⟨by rw [HE.out];rfl,rfl⟩
theorem zfz {s:ByteArray} {i:Nat} {m e:Int} (h:zbR s i m=.inr e):e≠0:=by
 unfold zbR at h
 split at h
 ·cases h;decide
 ·split at h
  ·cases h;decide
  ·cases h
def zct:Sum Tk (Nat×Int)->Value
 | .inl t=>.tuple #[tkG t,.int .i64 0,.int .i64 0]
 | .inr p=>.tuple #[tkG tk0,.int .i64 p.1,.int .i64 p.2]
def lnB (c:Int):Bool:=decide (0<=c)&&!(c==10)
def zfa (s:ByteArray):Nat->Nat->Nat
 | 0,i=>i
 | f+1,i=>if i<s.size then (if chr s i=45/\chr s (i+1)=45 then zfa s f (spN lnB s i) else if chr s i=9∨chr s i=10∨chr s i=13∨chr s i=32 then zfa s f (i+1) else i) else i
def zbE (s:ByteArray) (i:Nat):Nat:=zfa s (s.size+1) i
def sgn (k:Nat):List UInt8 :=
 if k=6 then [60,45] else if k=27 then [45,62] else if k=7 then [47] else if k=8 then [38] else if k=9 then [33] else if k=10 then [63] else if k=11 then [42] else if k=12 then [43] else if k=16 then [40] else if k=17 then [41]
 else if k=18 then [46] else if k=22 then [58,125] else if k=23 then [123,124] else if k=24 then [124,125] else if k=25 then [123,126] else if k=26 then [126,125] else if k=19 then [123] else if k=20 then [125] else []
theorem zgI (s:ByteArray) (a:Nat) (hs:s.size<=140737488355328) (ha:a<=140737488355400) (w:World):Cl 96 #[.string s,.int .i64 a] w (rU w (.int .i64 (zbV s a))):=by
 have HX:Hid (∀k (h:k<s.size) w,Cl 91 #[.int .u8 (s[k].toNat:Int)] w (rU w (.int .i64 (zaI (chr s k))))):=fun k h w=>by
  have:=zbO s[k] w;rw [<-zam h] at this;rw [<-zam h];exact this
 have H0:Hid (hx7 s a 7=zbV s a):=rfl;go_enter Tryz.func96,Tryz.ntmps96;go_wp2_with fail;go_loopw [5] (fun t wr=>∃i m:Nat,t=.int .i64 i/\i+m<=a+7/\a+7<=i+m/\wr=w/\Hid (hx7 s i m=zbV s a)) (fun t _=>a+7 - (intOf t).toNat)
 case atStart=>exact ⟨a,7,rfl,by omega,by omega,rfl,H0⟩
 case round =>
  obtain ⟨i,m,rfl,hm1,hm2,rfl,HI⟩:=hrel;clear H0;have z0:(0:Int)<=(i:Int):=by omega
  by_cases h1:i<s.size
  ·have t1:decide (i<s.size)=true:=decide_eq_true h1
   have z1:(i:Int)<(s.size:Int):=by omega
   cases m with
   | zero =>
    have HE:Hid (zbV s a=i):=HI.symm;have t3:¬(i:Int)<(a:Int)+7:=by omega
    clear HX HI;go_wp2_with fail;go_ret
    exact ⟨by rw [HE.out];rfl,rfl⟩
   | succ m =>
    have t3:(i:Int)<(a:Int)+7:=by omega
    have HXi:=hO (HX i h1);clear HX;by_cases hx:0<=zaI (chr s i)
    ·have HE:Hid (hx7 s (i+1) m=zbV s a):=by show _=zbV s a;rw [<-HI.out,hx7,iP hx]
     clear HI;go_wp2_with fail;refine (HXi _).mono ?_;rintro e w ⟨rfl,rfl⟩;clear HXi;go_wp2_with fail;go_roundw
     case rel=>exact ⟨i+1,m,by go_num,by omega,by omega,trivial,HE⟩
     case measure=>simp [intOf];omega
    ·have HE:Hid (zbV s a=i):=by show zbV s a=_;rw [<-HI.out,hx7,iN hx]
     clear HI;go_wp2_with fail;refine (HXi _).mono ?_;rintro e w ⟨rfl,rfl⟩;clear HXi;go_wp2_with fail;go_ret
     exact ⟨by rw [HE.out];rfl,rfl⟩
  ·have t1:¬(i:Int)<(s.size:Int):=by omega
   have HE:Hid (zbV s a=i):=by
    show zbV s a=_
    rw [<-HI.out]
    cases m with
    | zero=>rfl
    | succ m=>rw [hx7,zau h1,iN (by decide)]
   clear HX HI;go_wp2_with fail;go_ret
   exact ⟨by rw [HE.out];rfl,rfl⟩
theorem znS (s:ByteArray) (i:Nat) (hs:s.size<=140737488355328) (hi:i<=s.size) (w:World):Cl 27 #[.string s,.int .i64 i] w (rU w (.int .i64 (zbE s i))):=by
 have HA:Hid (∀k w,Cl 40 #[.string s,.int .i64 (((k:Nat):Int)+1)] w (rU w (.int .i64 (chr s (k+1))))):=fun k w=>za0 s (k+1) w
 have H0:Hid (zfa s (s.size+1) i=zbE s i):=rfl;go_enter Tryz.func27,Tryz.ntmps27;go_wp2_with fail;go_loopw [1] (fun t wr=>∃k f:Nat,t=.int .i64 k/\k<=s.size/\s.size<f+k/\wr=w/\Hid (zfa s f k=zbE s i)) (fun t _=>s.size - (intOf t).toNat)
 case atStart=>exact ⟨i,s.size+1,rfl,hi,by omega,rfl,H0⟩
 case round =>
  obtain ⟨k,f,rfl,hk,hf,rfl,HI⟩:=hrel;clear H0;have z0:(0:Int)<=(k:Int):=by omega
  obtain ⟨f,rfl⟩:∃g,f=g+1:=⟨f - 1,by omega⟩;by_cases h1:k<s.size
  ·have z1:(k:Int)<(s.size:Int):=by omega
   have hck:=zam h1;have HU:Hid (zbE s i=if chr s k=45/\chr s (k+1)=45 then zfa s f (spN lnB s k) else if chr s k=9∨chr s k=10∨chr s k=13∨chr s k=32 then zfa s f (k+1) else k):=by show zbE s i=_;rw [<-HI.out,zfa,iP h1]
   clear HI;by_cases h45:chr s k=45
   ·have t1:((s[k].toNat:Int)==45)=true:=by rw [<-hck,h45];rfl
    have u9:((s[k].toNat:Int)==9)=false:=by rw [<-hck,h45];rfl
    have u10:((s[k].toNat:Int)==10)=false:=by rw [<-hck,h45];rfl
    have u13:((s[k].toNat:Int)==13)=false:=by rw [<-hck,h45];rfl
    have u32:((s[k].toNat:Int)==32)=false:=by rw [<-hck,h45];rfl
    clear hck;by_cases h46:chr s (k+1)=45
    ·have t2:(chr s (k+1)==45)=true:=by rw [h46];rfl
     have hsp:=zbX lnB s (by decide) _ k rfl;have hnx:=(za8 (P:=lnB) (s:=s) (i:=k) (by decide) (by rw [h45];rfl)).2;have hg2:=zbe lnB s (by decide) (k+1);obtain ⟨g,hg⟩:∃g,g=spN lnB s k:=⟨_,rfl⟩;rw [<-hg] at hsp hnx;have HE:Hid (zfa s f g=zbE s i):=by show _=zbE s i;rw [HU.out,iP ⟨h45,h46⟩,hg]
     have hg1:k<g:=by omega
     have hg3:g<=s.size:=hsp.2.1 hk;have HN:Hid (∀j,lnB (chr s j)=true->spN lnB s j=spN lnB s (j+1)):=fun j h=>(za8 (by decide) h).2
     have HS:Hid (∀j,lnB (chr s j)=false->spN lnB s j=j):=fun j h=>zbo h
     have H1:Hid (spN lnB s k=g):=hg.symm;clear HU hsp hnx hg2 h45 h46 hg;go_wp2_with fail;refine (HA _ _).mono ?_;rintro e w ⟨rfl,rfl⟩;go_wp2_with fail;go_loopw [1] (fun t wr=>∃j:Nat,t=.int .i64 j/\j<=s.size/\wr=w/\Hid (spN lnB s j=g)) (fun t _=>s.size - (intOf t).toNat)
     case atStart=>exact ⟨k,rfl,hk,rfl,H1⟩
     case round =>
      obtain ⟨j,rfl,hj,rfl,HJ⟩:=hrel;clear H1;have y0:(0:Int)<=(j:Int):=by omega
      by_cases hj1:j<s.size
      ·have y1:(j:Int)<(s.size:Int):=by omega
       have hcj:=zam hj1;have hcl:=zbi s j;by_cases h10:chr s j=10
       ·have HG:Hid (j=g):=by show j=g;rw [<-HJ.out];exact (HS j (by rw [h10];rfl)).symm
        have v1:((s[j].toNat:Int) != 10)=false:=by rw [<-hcj,h10];rfl
        clear HJ HN HS hcj h10 HA;go_wp2_with fail;go_roundw
        case rel=>exact ⟨j,f,rfl,hj,by have:=HG.out;omega,trivial,by rw [HG.out];exact HE⟩
        case measure=>have:=HG.out;simp [intOf];omega
       ·have HG:Hid (spN lnB s (j+1)=g):=by
         show _=g
         rw [<-HJ.out];refine (HN j ?_).symm;unfold lnB;rw [decide_eq_true (by rw [hcj];omega),bF h10];rfl
        have v1:((s[j].toNat:Int) != 10)=true:=by rw [<-hcj,bne,bF h10];rfl
        clear HJ HN HS hcj h10 HA HE;go_wp2_with fail;go_roundw
        case rel=>exact ⟨j+1,by go_num,by omega,trivial,HG⟩
        case measure=>simp [intOf];omega
      ·obtain rfl:j=s.size:=by omega
       have y1:¬(s.size:Int)<(s.size:Int):=by omega
       have HG:Hid (s.size=g):=by show s.size=g;rw [<-HJ.out];exact (HS s.size (by rw [zau (by omega)];rfl)).symm
       clear HJ HN HS HA;go_wp2_with fail;go_roundw
       case rel=>exact ⟨s.size,f,rfl,by omega,by have:=HG.out;omega,trivial,by rw [HG.out];exact HE⟩
       case measure=>have:=HG.out;simp [intOf];omega
    ·have t2:(chr s (k+1)==45)=false:=bF h46
     have HE:Hid (zbE s i=k):=by show zbE s i=_;rw [HU.out,iN (fun q=>h46 q.2),iN (by omega)]
     clear HU h45 h46;go_wp2_with fail;refine (HA _ _).mono ?_;rintro e w ⟨rfl,rfl⟩;clear HA;go_wp2_with fail;go_ret
     exact ⟨by rw [HE.out];rfl,rfl⟩
   ·have t1:((s[k].toNat:Int)==45)=false:=by rw [<-hck];exact bF h45
    by_cases hbl:chr s k=9∨chr s k=10∨chr s k=13∨chr s k=32
    ·have HE:Hid (zfa s f (k+1)=zbE s i):=by show _=zbE s i;rw [HU.out,iN (fun q=>h45 q.1),iP hbl]
     clear HU HA h45
     rcases hbl with q | q | q | q
     ·have u9:((s[k].toNat:Int)==9)=true:=by rw [<-hck,q];rfl
      clear hck q;go_wp2_with fail;go_roundw
      case rel=>exact ⟨k+1,f,by go_num,by omega,by omega,trivial,HE⟩
      case measure=>simp [intOf];omega
     ·have u9:((s[k].toNat:Int)==9)=false:=by rw [<-hck,q];rfl
      have u10:((s[k].toNat:Int)==10)=true:=by rw [<-hck,q];rfl
      clear hck q;go_wp2_with fail;go_roundw
      case rel=>exact ⟨k+1,f,by go_num,by omega,by omega,trivial,HE⟩
      case measure=>simp [intOf];omega
     ·have u9:((s[k].toNat:Int)==9)=false:=by rw [<-hck,q];rfl
      have u10:((s[k].toNat:Int)==10)=false:=by rw [<-hck,q];rfl
      have u13:((s[k].toNat:Int)==13)=true:=by rw [<-hck,q];rfl
      clear hck q;go_wp2_with fail;go_roundw
      case rel=>exact ⟨k+1,f,by go_num,by omega,by omega,trivial,HE⟩
      case measure=>simp [intOf];omega
     ·have u9:((s[k].toNat:Int)==9)=false:=by rw [<-hck,q];rfl
      have u10:((s[k].toNat:Int)==10)=false:=by rw [<-hck,q];rfl
      have u13:((s[k].toNat:Int)==13)=false:=by rw [<-hck,q];rfl
      have u32:((s[k].toNat:Int)==32)=true:=by rw [<-hck,q];rfl
      clear hck q;go_wp2_with fail;go_roundw
      case rel=>exact ⟨k+1,f,by go_num,by omega,by omega,trivial,HE⟩
      case measure=>simp [intOf];omega
    ·have HE:Hid (zbE s i=k):=by show zbE s i=_;rw [HU.out,iN (fun q=>h45 q.1),iN hbl]
     have u9:((s[k].toNat:Int)==9)=false:=by rw [<-hck,beq_eq_false_iff_ne];omega
     have u10:((s[k].toNat:Int)==10)=false:=by rw [<-hck,beq_eq_false_iff_ne];omega
     have u13:((s[k].toNat:Int)==13)=false:=by rw [<-hck,beq_eq_false_iff_ne];omega
     have u32:((s[k].toNat:Int)==32)=false:=by rw [<-hck,beq_eq_false_iff_ne];omega
     clear HU HA h45 hck hbl;go_wp2_with fail;go_ret
     exact ⟨by rw [HE.out];rfl,rfl⟩
  ·obtain rfl:k=s.size:=by omega
   have t1:¬(s.size:Int)<(s.size:Int):=by omega
   have HE:Hid (zbE s i=s.size):=by show zbE s i=_;rw [<-HI.out,zfa,iN (by omega)]
   clear HI HA;go_wp2_with fail;go_ret
   exact ⟨by rw [HE.out];rfl,rfl⟩
def esV (i:Nat):Option (Nat×Nat)->Value
 | some p=>.tuple #[.int .i64 p.1,.int .i64 p.2]
 | none=>.tuple #[.int .i64 (-1),.int .i64 i]
theorem zh9 (s:ByteArray) (i:Nat) (hs:s.size<=140737488355328) (hi:i<=s.size) (w:World):Cl 65 #[.string s,.int .i64 i] w (rU w (esV i (zcB s i))):=by
 have HA:Hid (∀w,Cl 40 #[.string s,.int .i64 ((i:Int)+1)] w (rU w (.int .i64 (chr s (i+1))))):=fun w=>za0 s (i+1) w
 have HX:Hid (∀k (h:k<s.size) w,Cl 91 #[.int .u8 (s[k].toNat:Int)] w (rU w (.int .i64 (zaI (chr s k))))):=fun k h w=>by
  have:=zbO s[k] w;rw [<-zam h] at this;rw [<-zam h];exact this
 have hd0:=zbi s (i+1);by_cases h110:chr s (i+1)=110
 ·have HE:Hid (zcB s i=some (10,i+2)):=by show zcB s i=_;unfold zcB;rw [iP h110]
  have t1:(chr s (i+1)==110)=true:=by rw [h110];rfl
  clear HX h110;go_enter Tryz.func65,Tryz.ntmps65;go_wp2_with fail;refine (HA _).mono ?_;rintro e w ⟨rfl,rfl⟩;clear HA;go_wp2_with fail;go_ret2
  exact ⟨by rw [HE.out];rfl,rfl⟩
 have t1:(chr s (i+1)==110)=false:=bF h110;by_cases h114:chr s (i+1)=114
 ·have HE:Hid (zcB s i=some (13,i+2)):=by show zcB s i=_;unfold zcB;rw [iN h110,iP h114]
  have t2:(chr s (i+1)==114)=true:=by rw [h114];rfl
  clear HX h110 h114;go_enter Tryz.func65,Tryz.ntmps65;go_wp2_with fail;refine (HA _).mono ?_;rintro e w ⟨rfl,rfl⟩;clear HA;go_wp2_with fail;go_ret2
  exact ⟨by rw [HE.out];rfl,rfl⟩
 have t2:(chr s (i+1)==114)=false:=bF h114;by_cases h116:chr s (i+1)=116
 ·have HE:Hid (zcB s i=some (9,i+2)):=by show zcB s i=_;unfold zcB;rw [iN h110,iN h114,iP h116]
  have t3:(chr s (i+1)==116)=true:=by rw [h116];rfl
  clear HX h110 h114 h116;go_enter Tryz.func65,Tryz.ntmps65;go_wp2_with fail;refine (HA _).mono ?_;rintro e w ⟨rfl,rfl⟩;clear HA;go_wp2_with fail;go_ret2
  exact ⟨by rw [HE.out];rfl,rfl⟩
 have t3:(chr s (i+1)==116)=false:=bF h116;by_cases hq:chr s (i+1)=92∨chr s (i+1)=39∨chr s (i+1)=34
 ·have HE:Hid (zcB s i=some ((chr s (i+1)).toNat,i+2)):=by show zcB s i=_;unfold zcB;rw [iN h110,iN h114,iN h116,iP hq]
  have HC:Hid (((chr s (i+1)).toNat:Int)=chr s (i+1)):=by show ((chr s (i+1)).toNat:Int)=_;omega
  rcases hq with q | q | q
  ·have t4:(chr s (i+1)==92)=true:=by rw [q];rfl
   clear HX h110 h114 h116 q hd0;go_enter Tryz.func65,Tryz.ntmps65;go_wp2_with fail;refine (HA _).mono ?_;rintro e w ⟨rfl,rfl⟩;clear HA;go_wp2_with fail;go_ret2
   exact ⟨by rw [HE.out];show _=Ending.returned (.tuple #[.int .i64 ((chr s (i+1)).toNat:Int),_]);rw [HC.out];rfl,rfl⟩
  ·have t4:(chr s (i+1)==92)=false:=by rw [q];rfl
   have t5:(chr s (i+1)==39)=true:=by rw [q];rfl
   clear HX h110 h114 h116 q hd0;go_enter Tryz.func65,Tryz.ntmps65;go_wp2_with fail;refine (HA _).mono ?_;rintro e w ⟨rfl,rfl⟩;clear HA;go_wp2_with fail;go_ret2
   exact ⟨by rw [HE.out];show _=Ending.returned (.tuple #[.int .i64 ((chr s (i+1)).toNat:Int),_]);rw [HC.out];rfl,rfl⟩
  ·have t4:(chr s (i+1)==92)=false:=by rw [q];rfl
   have t5:(chr s (i+1)==39)=false:=by rw [q];rfl
   have t6:(chr s (i+1)==34)=true:=by rw [q];rfl
   clear HX h110 h114 h116 q hd0;go_enter Tryz.func65,Tryz.ntmps65;go_wp2_with fail;refine (HA _).mono ?_;rintro e w ⟨rfl,rfl⟩;clear HA;go_wp2_with fail;go_ret2
   exact ⟨by rw [HE.out];show _=Ending.returned (.tuple #[.int .i64 ((chr s (i+1)).toNat:Int),_]);rw [HC.out];rfl,rfl⟩
 have t4:(chr s (i+1)==92)=false:=by rw [beq_eq_false_iff_ne];omega
 have t5:(chr s (i+1)==39)=false:=by rw [beq_eq_false_iff_ne];omega
 have t6:(chr s (i+1)==34)=false:=by rw [beq_eq_false_iff_ne];omega
 have HB:Hid (zcB s i=if chr s (i+1)=120/\0<=zaI (chr s (i+2))/\0<=zaI (chr s (i+3)) then some ((16 * zaI (chr s (i+2))+zaI (chr s (i+3))).toNat,i+4) else none):=by show zcB s i=_;unfold zcB;rw [iN h110,iN h114,iN h116,iN hq]
 clear h110 h114 h116 hq;by_cases h120:chr s (i+1)=120
 ·have t7:(chr s (i+1)==120)=true:=by rw [h120];rfl
  by_cases h3:i+3<s.size
  ·have z3:(i:Int)+3<(s.size:Int):=by omega
   have y0:(0:Int)<=(i:Int)+2:=by omega
   have y1:(i:Int)+2<(s.size:Int):=by omega
   have y2:(0:Int)<=(i:Int)+3:=by omega
   have HX2:=hO (HX (i+2) (by omega));have HX3:=hO (HX (i+3) h3);by_cases hx2:0<=zaI (chr s (i+2))
   ·by_cases hx3:0<=zaI (chr s (i+3))
    ·have HE:Hid (zcB s i=some ((16 * zaI (chr s (i+2))+zaI (chr s (i+3))).toNat,i+4)):=by show zcB s i=_;rw [HB.out,iP ⟨h120,hx2,hx3⟩]
     have HC:Hid (((16 * zaI (chr s (i+2))+zaI (chr s (i+3))).toNat:Int)=zaF s (i+2) 16 2):=by
      show ((16 * zaI (chr s (i+2))+zaI (chr s (i+3))).toNat:Int)=_
      rw [zaF,zaF,zaF,Nat.add_zero,show i+2+1=i+3 from rfl];omega
     have HW:Hid (∀w,Cl 64 #[.string (s.extract (i+2) (i+4)),.int .i64 16] w (rU w (.int .i64 (zaF s (i+2) 16 2)))):=fun w=>by
      have hsz:(s.extract (i+2) (i+4)).size=2:=by rw [ByteArray.size_extract];omega
      have h:=zdm (s.extract (i+2) (i+4)) 16 (by omega) (by omega) w;rw [hsz,zcr (by omega) 2 (by omega)] at h;exact h
     have y3:(i:Int)+2<=(i:Int)+4:=by omega
     have y4:(i:Int)+4<=(s.size:Int):=by omega
     clear HX HB h120;go_enter Tryz.func65,Tryz.ntmps65;go_wp2_with fail;refine (HA _).mono ?_;rintro e w ⟨rfl,rfl⟩;clear HA;go_wp2_with fail;refine (HX2 _).mono ?_;rintro e w ⟨rfl,rfl⟩;go_wp2_with fail;refine (HX3 _).mono ?_;rintro e w ⟨rfl,rfl⟩;clear HX2 HX3;go_wp2_with fail;refine (HW _).mono ?_;rintro e w ⟨rfl,rfl⟩;clear HW;go_wp2_with fail;go_ret2
     exact ⟨by rw [HE.out];show _=Ending.returned (.tuple #[.int .i64 ((16 * zaI (chr s (i+2))+zaI (chr s (i+3))).toNat:Int),_]);rw [HC.out];rfl,rfl⟩
    ·have HE:Hid (zcB s i=none):=by show zcB s i=_;rw [HB.out,iN (fun q=>hx3 q.2.2)]
     clear HX HB h120;go_enter Tryz.func65,Tryz.ntmps65;go_wp2_with fail;refine (HA _).mono ?_;rintro e w ⟨rfl,rfl⟩;clear HA;go_wp2_with fail;refine (HX2 _).mono ?_;rintro e w ⟨rfl,rfl⟩;go_wp2_with fail;refine (HX3 _).mono ?_;rintro e w ⟨rfl,rfl⟩;clear HX2 HX3;go_wp2_with fail;go_ret2
     exact ⟨by rw [HE.out];rfl,rfl⟩
   ·have HE:Hid (zcB s i=none):=by show zcB s i=_;rw [HB.out,iN (fun q=>hx2 q.2.1)]
    clear HX HB h120;go_enter Tryz.func65,Tryz.ntmps65;go_wp2_with fail;refine (HA _).mono ?_;rintro e w ⟨rfl,rfl⟩;clear HA;go_wp2_with fail;refine (HX2 _).mono ?_;rintro e w ⟨rfl,rfl⟩;clear HX2 HX3;go_wp2_with fail;go_ret2
    exact ⟨by rw [HE.out];rfl,rfl⟩
  ·have z3:¬(i:Int)+3<(s.size:Int):=by omega
   have HE:Hid (zcB s i=none):=by
    show zcB s i=_
    rw [HB.out,iN (fun q=>?_)];have:=zeg q.2.2;omega
   clear HX HB h120;go_enter Tryz.func65,Tryz.ntmps65;go_wp2_with fail;refine (HA _).mono ?_;rintro e w ⟨rfl,rfl⟩;clear HA;go_wp2_with fail;go_ret2
   exact ⟨by rw [HE.out];rfl,rfl⟩
 ·have t7:(chr s (i+1)==120)=false:=bF h120
  have HE:Hid (zcB s i=none):=by show zcB s i=_;rw [HB.out,iN (fun q=>h120 q.1)]
  clear HX HB h120;go_enter Tryz.func65,Tryz.ntmps65;go_wp2_with fail;refine (HA _).mono ?_;rintro e w ⟨rfl,rfl⟩;clear HA;go_wp2_with fail;go_ret2
  exact ⟨by rw [HE.out];rfl,rfl⟩
theorem znT {s:ByteArray} {i c n:Nat} (h:zcB s i=some (c,n)):c<256/\i<n/\n<=s.size:=by
 unfold zcB at h;have hc:=zbi s (i+1);have hx2:=zbj (chr s (i+2));have hx3:=zbj (chr s (i+3));have hl:0<=chr s (i+1)->i+1<s.size:=zaB
 split at h;(simp at h;omega)
 split at h;(simp at h;omega)
 split at h;(simp at h;omega)
 split at h;(simp at h;omega)
 split at h
 ·rename_i q
  have:=zeg q.2.2;simp at h
  omega
 ·simp at h
theorem zaf {W:World} {B e s n:Nat} {v:Value} {xs:List Value} (h:W.ownsRow B e s v n xs):∃A c,v=.slice A n c:=by
 rcases h.2 with ⟨rfl,h0⟩ | ⟨g,cap,cur,rfl,_⟩
 ·exact ⟨none,0,by rw [h0]⟩
 ·exact ⟨_,cap,rfl⟩
theorem TX.grown {W W':World} {b:Nat} {t:Tk} {X:Option Nat} (h:TX W b t) (hg:W.grownBy W' X) (hx:X≠some b):TX W' b t:=h.same (hg.block b h.lt (fun e=>hx e.symm))
structure AtT (w wr:World) (s:ByteArray) (b:Nat) (v:Value) (out:List Int) (i f:Nat):Prop where
 hb:bW w wr
 hx:TX wr w.heap.size tk0
 ho:wr.ownsRow (w.heap.size+1) 5 1 v out.length (out.map (Value.int .u8))
 hi:i<=s.size
 hf:s.size<f+i
 he:zbz s (chr s b) b f out i=zbY s b
 hl:out.length<=i
theorem zeu (s:ByteArray) (b:Nat) (hs:s.size<=140737488355000) (hb:b<s.size) (w:World):Cl 47 #[.string s,.int .i64 b] w (rB w (zct (zbY s b))):=by
 obtain ⟨i0,hinf,hz0,hz1,hz2⟩:=info_parts Tryz.info5;have HWr:Hid (∀i e w,Cl 43 #[.int .i64 i,.int .i64 e] w fun e' w'=>e'=.returned (.tuple #[tkG tk0,.int .i64 i,.int .i64 e])/\bW w w'):=fun i e w=>zbP i e w
 have HA:Hid (∀k w,Cl 40 #[.string s,.int .i64 ((k:Nat):Int)] w (rU w (.int .i64 (chr s k)))):=fun k w=>za0 s k w
 have HEs:Hid (∀k w,k<=s.size->Cl 65 #[.string s,.int .i64 ((k:Nat):Int)] w (rU w (esV k (zcB s k)))):=fun k w hk=>zh9 s k (by omega) hk w
 have H0:Hid (AtT w (w.alloc (tkO tk0)) s b (.slice none 0 0) [] (b+1) (s.size+1)):=⟨zaa _ _,TX.new _ _,World.ownsRow_nil _ _ _ _,by omega,by omega,rfl,Nat.zero_le _⟩;have zb0:(0:Int)<=(b:Int):=by omega
 have zb1:(b:Int)<(s.size:Int):=by omega
 have hqb:=zam hb;have hwb:wrap64 (s[b].toNat:Int)=chr s b:=by rw [hqb];have:=(s[b]).toNat_lt;unfold wrap64;omega
 clear hqb;go_enter Tryz.func47,Tryz.ntmps47;go_wp2_with fail;go_loopw [7,8] (fun v t wr=>∃(out:List Int) (i f:Nat),t=.int .i64 i/\Hid (AtT w wr s b v out i f)) (fun _ t _=>s.size+1 - (intOf t).toNat)
 case atStart=>exact ⟨[],b+1,s.size+1,by go_num,H0⟩
 case round =>
  obtain ⟨out,i,f,rfl,HW⟩:=hrel;clear H0;have hi:=HW.hi;have hf:=HW.hf;have hol:=HW.hl;obtain ⟨f,rfl⟩:∃g,f=g+1:=⟨f - 1,by omega⟩;have HS:Hid (zbz s (chr s b) b (f+1) out i=zbY s b):=HW.he;have HU:Hid (zbz s (chr s b) b (f+1) out i=if chr s i<0 then .inr (b,52) else if chr s i=chr s b then (if 255<out.length then .inr (b,2) else .inl ⟨2,0,b,i+1,zat out,0,0,0,0⟩)
   else if chr s i<32∨chr s i=127 then .inr (i,50) else if chr s i≠92 then zbz s (chr s b) b f (out++[chr s i]) (i+1)
   else match zcB s i with
    | none=>.inr (i,51)
    | some (c,n)=>zbz s (chr s b) b f (out++[(c:Int)]) n):=rfl
  go_wp2_with fail;refine (HA _ _).mono ?_;rintro e wr ⟨rfl,rfl⟩;have hcl:=zbi s i;by_cases h1:chr s i<0
  ·have HE:Hid (zbY s b=.inr (b,52)):=by show zbY s b=_;rw [<-HS.out,HU.out,iP h1]
   have t1:decide (chr s i<0)=true:=decide_eq_true h1;clear HS HU HA HEs;go_wp2_with fail;refine (HWr _ _ _).mono ?_;rintro e w3 ⟨rfl,b3⟩;have HX3:Hid (TX w3 w.heap.size tk0):=HW.hx.below b3;have HB3:Hid (bW w w3):=HW.hb.trans (b3.mono HW.hb.size);clear b3 HWr HW;obtain ⟨c0,c1,c2,c3,c4,c5,c6,c7,c8⟩:=HX3.cells;obtain ⟨f0,f1,f2,f3,f4,f5,f6,f7,f8⟩:=HX3.fz;go_wp2_with fail;exact zai rfl rfl rfl rfl rfl (zar HX3 tk0) ⟨by rw [HE.out];rfl,zac HB3 (nL _) tk0⟩
  have t1:decide (chr s i<0)=false:=dF h1;by_cases h2:chr s i=chr s b
  ·have t2:(chr s i==chr s b)=true:=by rw [h2];simp
   obtain ⟨Av,cv,rfl⟩:=zaf HW.ho;by_cases h3:255<out.length
   ·have t3:decide (255<out.length)=true:=decide_eq_true h3
    have HE:Hid (zbY s b=.inr (b,2)):=by show zbY s b=_;rw [<-HS.out,HU.out,iN h1,iP h2,iP h3]
    clear HS HU HA HEs;go_wp2_with fail;refine (HWr _ _ _).mono ?_;rintro e w3 ⟨rfl,b3⟩;have HX3:Hid (TX w3 w.heap.size tk0):=HW.hx.below b3;have HB3:Hid (bW w w3):=HW.hb.trans (b3.mono HW.hb.size);clear b3 HWr HW;obtain ⟨c0,c1,c2,c3,c4,c5,c6,c7,c8⟩:=HX3.cells;obtain ⟨f0,f1,f2,f3,f4,f5,f6,f7,f8⟩:=HX3.fz;go_wp2_with fail;exact zai rfl rfl rfl rfl rfl (zar HX3 tk0) ⟨by rw [HE.out];rfl,zac HB3 (nL _) tk0⟩
   ·have t3:decide (255<out.length)=false:=dF h3
    have HE:Hid (zbY s b=.inl ⟨2,0,b,i+1,zat out,0,0,0,0⟩):=by show zbY s b=_;rw [<-HS.out,HU.out,iN h1,iP h2,iN h3]
    have hcv:=zfu HW.ho;obtain ⟨c0,c1,c2,c3,c4,c5,c6,c7,c8⟩:=HW.hx.cells;obtain ⟨f0,f1,f2,f3,f4,f5,f6,f7,f8⟩:=HW.hx.fz;clear HS HU HA HEs HWr;go_wp2_with fail;exact zai rfl rfl rfl rfl rfl (zar HW.hx ⟨2,0,b,i+1,zat out,0,0,0,0⟩) ⟨by rw [HE.out];rfl,zac HW.hb (nL _) ⟨2,0,b,i+1,zat out,0,0,0,0⟩⟩
  have t2:(chr s i==chr s b)=false:=bF h2;by_cases h4:chr s i<32∨chr s i=127
  ·have HE:Hid (zbY s b=.inr (i,50)):=by show zbY s b=_;rw [<-HS.out,HU.out,iN h1,iN h2,iP h4]
   by_cases h5:chr s i<32
   ·have t3:decide (chr s i<32)=true:=decide_eq_true h5
    clear HS HU HA HEs;go_wp2_with fail;refine (HWr _ _ _).mono ?_;rintro e w3 ⟨rfl,b3⟩;have HX3:Hid (TX w3 w.heap.size tk0):=HW.hx.below b3;have HB3:Hid (bW w w3):=HW.hb.trans (b3.mono HW.hb.size);clear b3 HWr HW;obtain ⟨c0,c1,c2,c3,c4,c5,c6,c7,c8⟩:=HX3.cells;obtain ⟨f0,f1,f2,f3,f4,f5,f6,f7,f8⟩:=HX3.fz;go_wp2_with fail;exact zai rfl rfl rfl rfl rfl (zar HX3 tk0) ⟨by rw [HE.out];rfl,zac HB3 (nL _) tk0⟩
   ·have t3:decide (chr s i<32)=false:=dF h5
    have t4:(chr s i==127)=true:=beq_iff_eq.2 (h4.resolve_left h5);clear HS HU HA HEs;go_wp2_with fail;refine (HWr _ _ _).mono ?_;rintro e w3 ⟨rfl,b3⟩;have HX3:Hid (TX w3 w.heap.size tk0):=HW.hx.below b3;have HB3:Hid (bW w w3):=HW.hb.trans (b3.mono HW.hb.size);clear b3 HWr HW;obtain ⟨c0,c1,c2,c3,c4,c5,c6,c7,c8⟩:=HX3.cells;obtain ⟨f0,f1,f2,f3,f4,f5,f6,f7,f8⟩:=HX3.fz;go_wp2_with fail;exact zai rfl rfl rfl rfl rfl (zar HX3 tk0) ⟨by rw [HE.out];rfl,zac HB3 (nL _) tk0⟩
  have t3:decide (chr s i<32)=false:=dF (by omega);have t4:(chr s i==127)=false:=bF (by omega);have hil:i<s.size:=zaB (by omega);by_cases h6:chr s i=92
  ·have t5:(chr s i != 92)=false:=by rw [h6];rfl
   have HV:Hid (zbY s b=match zcB s i with
    | none=>.inr (i,51)
    | some (c,n)=>zbz s (chr s b) b f (out++[(c:Int)]) n):=by show zbY s b=_;rw [<-HS.out,HU.out,iN h1,iN h2,iN h4,iN (by simp [h6])]
   cases he:zcB s i with
   | none =>
    have HE:Hid (zbY s b=.inr (i,51)):=by show zbY s b=_;rw [HV.out,he]
    have HE2:=(show Hid (∀w,Cl 65 #[.string s,.int .i64 (i:Int)] w (rU w (.tuple #[.int .i64 (-1),.int .i64 i]))) from fun w=>by
     have h:=HEs i w hi;rw [he] at h;exact h)
    clear he HV;go_wp2_with fail;refine (HE2 _).mono ?_;rintro e wr ⟨rfl,rfl⟩;clear HE2;clear HS HU HA HEs;go_wp2_with fail;refine (HWr _ _ _).mono ?_;rintro e w3 ⟨rfl,b3⟩;have HX3:Hid (TX w3 w.heap.size tk0):=HW.hx.below b3;have HB3:Hid (bW w w3):=HW.hb.trans (b3.mono HW.hb.size);clear b3 HWr HW;obtain ⟨c0,c1,c2,c3,c4,c5,c6,c7,c8⟩:=HX3.cells;obtain ⟨f0,f1,f2,f3,f4,f5,f6,f7,f8⟩:=HX3.fz;go_wp2_with fail;exact zai rfl rfl rfl rfl rfl (zar HX3 tk0) ⟨by rw [HE.out];rfl,zac HB3 (nL _) tk0⟩
   | some p =>
    obtain ⟨cc,nn⟩:=p;have hbd:=znT he;have HE:Hid (zbz s (chr s b) b f (out++[(cc:Int)]) nn=zbY s b):=by show _=zbY s b;rw [HV.out,he]
    have HE2:=(show Hid (∀w,Cl 65 #[.string s,.int .i64 (i:Int)] w (rU w (.tuple #[.int .i64 cc,.int .i64 nn]))) from fun w=>by
     have h:=HEs i w hi;rw [he] at h;exact h)
    have hw8:IntKind.u8.wrap (cc:Int)=(cc:Int):=by rw [IntKind.wrap_u8'];omega
    have t6:decide ((cc:Int)<0)=false:=dF (by omega);clear he HV;go_wp2_with fail;refine (HE2 _).mono ?_;rintro e wr ⟨rfl,rfl⟩;clear HE2;have hO:wr.ownsRow (w.heap.size+1) 5 1 u7 out.length (out.map (Value.int .u8)):=HW.ho;have HC:Hid (bW w wr/\TX wr w.heap.size tk0):=⟨HW.hb,HW.hx⟩;have hsr:w.heap.size+1<=wr.heap.size:=HW.hx.lt;clear HW HS HU HEs HA HWr;go_wp2_with (at_builtin;refine wpList_append_lies _ rfl _ _ 104 rfl (w.heap.size+1) 5 i0 (.int .u8 0) 1 1 Tryz.underlying104 hinf hz0 hz1 hz2 rfl (by decide) _ _ _ rfl (hO.alloc _) ⟨wr.heap.size,0,none⟩ 1 1 [.int .u8 ((cc:Int))] rfl rfl (cell_one_new _ _ _) (by simp [Value.oneCell']) (by decide) ?c3 ?c4 ?c5 (wr.heap.size+1) (by simp) ?_)
    case c3=>unfold maxLen;omega
    case c4=>omega
    case c5=>first | omega | (simp;omega)
    intro g3 cap w3 hown hgrow hat _;have HW3:=(show Hid (AtT w w3 s b (.slice (some ⟨g3,0,none⟩) (out.length+1) cap) (out++[(cc:Int)]) nn f) from by
     refine ⟨(HC.1.alloc HC.1.size _).grown hgrow (by have:=HC.1.size;rw [sA];omega) (fun k e=>by have:=(hO.lt k e).1;omega),((HC.2.below (zaa _ _)).grown hgrow (fun e=>by have:=(hO.lt _ e).1;omega)),?_,by omega,by omega,HE.out,by rw [lA,List.length_singleton];omega⟩;rw [lA,List.length_singleton,List.map_append];exact hown)
    clear hown hgrow hat hO HC HE;go_wp2_with fail;go_roundw
    case rel=>exact ⟨_,nn,f,by go_num,HW3⟩
    case measure=>simp [intOf];omega
  ·have t5:(chr s i != 92)=true:=by rw [bne,bF h6];rfl
   have HE:Hid (zbz s (chr s b) b f (out++[chr s i]) (i+1)=zbY s b):=by show _=zbY s b;rw [<-HS.out,HU.out,iN h1,iN h2,iN h4,iP h6]
   have hw8:IntKind.u8.wrap (chr s i)=chr s i:=by rw [IntKind.wrap_u8'];omega
   have hO:wr.ownsRow (w.heap.size+1) 5 1 u7 out.length (out.map (Value.int .u8)):=HW.ho;have HC:Hid (bW w wr/\TX wr w.heap.size tk0):=⟨HW.hb,HW.hx⟩;have hsr:w.heap.size+1<=wr.heap.size:=HW.hx.lt;clear HW HS HU HEs HA HWr;go_wp2_with (at_builtin;refine wpList_append_lies _ rfl _ _ 104 rfl (w.heap.size+1) 5 i0 (.int .u8 0) 1 1 Tryz.underlying104 hinf hz0 hz1 hz2 rfl (by decide) _ _ _ rfl (hO.alloc _) ⟨wr.heap.size,0,none⟩ 1 1 [.int .u8 (chr s i)] rfl rfl (cell_one_new _ _ _) (by simp [Value.oneCell']) (by decide) ?c3 ?c4 ?c5 (wr.heap.size+1) (by simp) ?_)
   case c3=>unfold maxLen;omega
   case c4=>omega
   case c5=>first | omega | (simp;omega)
   intro g3 cap w3 hown hgrow hat _;have HW3:=(show Hid (AtT w w3 s b (.slice (some ⟨g3,0,none⟩) (out.length+1) cap) (out++[chr s i]) (i+1) f) from by
    refine ⟨(HC.1.alloc HC.1.size _).grown hgrow (by have:=HC.1.size;rw [sA];omega) (fun k e=>by have:=(hO.lt k e).1;omega),((HC.2.below (zaa _ _)).grown hgrow (fun e=>by have:=(hO.lt _ e).1;omega)),?_,by omega,by omega,HE.out,by rw [lA,List.length_singleton];omega⟩;rw [lA,List.length_singleton,List.map_append];exact hown)
   clear hown hgrow hat hO HC HE;go_wp2_with fail;go_roundw
   case rel=>exact ⟨_,(i+1),f,by go_num,HW3⟩
   case measure=>simp [intOf];omega
theorem zf1 {W W':World} {B e s n:Nat} {v:Value} {xs:List Value} (h:W.ownsRow B e s v n xs) (hb:bW W W'):W'.ownsRow B e s v n xs:=by
 refine ⟨h.1,?_⟩
 rcases h.2 with hn | ⟨g,cap,cur,rfl,hB,hgg,rest⟩
 ·exact .inl hn
 ·refine .inr ⟨g,cap,cur,rfl,hB,?_,rest⟩
  rw [hb.block g (Array.getElem?_eq_some_iff.1 hgg).1];exact hgg
theorem znU (s:ByteArray):∀f i,i<=s.size->i<=zfa s f i/\zfa s f i<=s.size:=by
 intro f
 induction f with
 | zero=>intro i hi;exact ⟨nL _,hi⟩
 | succ f ih =>
  intro i hi;rw [zfa]
  split
  ·split
   ·have h1:=zbe lnB s (by decide) i
    have h2:=zbF lnB s (by decide) i hi;obtain ⟨a,b⟩:=ih (spN lnB s i) h2;exact ⟨by omega,b⟩
   ·split
    ·obtain ⟨a,b⟩:=ih (i+1) (by omega)
     exact ⟨by omega,b⟩
    ·exact ⟨nL _,hi⟩
  ·exact ⟨nL _,hi⟩
theorem zcu {s:ByteArray} {i:Nat} (h:i<=s.size):i<=zbE s i/\zbE s i<=s.size:=znU s _ i h
def tkV (t:Tk):List Value:=[.int .i64 t.kd,.int .i64 t.nn,.int .i64 t.fr,.int .i64 t.en,.string t.tx,.int .u64 t.s0,.int .u64 t.s1,.int .u64 t.s2,.int .u64 t.s3]
def tkc (l:List Tk):List Value:=l.flatMap tkV
theorem zdR (a b:List Tk):tkc (a++b)=tkc a++tkc b:=List.flatMap_append
theorem zgJ (t:Tk):tkc [t]=tkV t:=by unfold tkc;rw [List.flatMap_cons,List.flatMap_nil,List.append_nil]
theorem zjg (t:Tk):∀u∈tkV t,u.oneCell'=true:=fun u hu=>by
 simp only [tkV,List.mem_cons,List.not_mem_nil,or_false] at hu
 rcases hu with rfl | rfl | rfl | rfl | rfl | rfl | rfl | rfl | rfl <;> rfl
def zbT (one:Nat->Sum Tk (Nat×Int)) (s:ByteArray):Nat->List Tk->Nat->Sum (List Tk) (Nat×Int)
 | 0,out,_=>.inl out
 | f+1,out,i=>if i<s.size then (match one i with
  | .inr q=>.inr q
  | .inl t=>zbT one s f (out++[t]) (zbE s t.en.toNat)) else .inl out
def zbf (one:Nat->Sum Tk (Nat×Int)) (s:ByteArray):Sum (List Tk) (Nat×Int):=if 65536<s.size then .inr (0,2) else zbT one s (s.size+1) [] (zbE s 0)
def LxV (w w':World) (r:Sum (List Tk) (Nat×Int)) (e:Ending):Prop:=match r with
 | .inr q=>e=.returned (.tuple #[.slice none 0 0,.int .i64 q.1,.int .i64 q.2])
 | .inl l=>∃v,e=.returned (.tuple #[v,.int .i64 0,.int .i64 0])/\w'.ownsRow w.heap.size 69 9 v l.length (tkc l)
theorem Tryz.info36:(Tryz.prog.info? 69).map (fun i=>(i.zero,i.size,i.bytes))=some (some (tkG tk0),9,80):=by kernel_rfl
structure AtX (one:Nat->Sum Tk (Nat×Int)) (w wr:World) (s:ByteArray) (v:Value) (out:List Tk) (i f:Nat):Prop where
 hb:bW w wr
 ho:wr.ownsRow w.heap.size 69 9 v out.length (tkc out)
 hi:i<=s.size
 hf:s.size<f+i
 he:zbT one s f out i=zbf one s
 hl:out.length<=i
theorem lex_of (one:Nat->Sum Tk (Nat×Int)) (s:ByteArray) (hs:s.size<=140737488355000)
  (H1:∀b,b<s.size->s.size<=65536->∀w,Cl 28 #[.string s,.int .i64 (b:Nat)] w (rB w (zct (one b))))
  (H2:∀b t,b<s.size->one b=.inl t->∃e:Nat,t.en=e/\b<e/\e<=s.size) (H3:∀b q,one b=.inr q->q.2≠0) (w:World) :
  Cl 13 #[.string s] w fun e w'=>LxV w w' (zbf one s) e/\bW w w':=by
 obtain ⟨i0,hinf,hz0,hz1,hz2⟩:=info_parts Tryz.info36;have HG:Hid (∀k w,k<=s.size->Cl 27 #[.string s,.int .i64 ((k:Nat):Int)] w (rU w (.int .i64 (zbE s k)))):=fun k w hk=>znS s k (by omega) hk w
 have HB0:Hid (bW w w):=bR _ _;by_cases h65:65536<s.size
 ·have HE:Hid (zbf one s=.inr (0,2)):=by show zbf one s=_;unfold zbf;rw [iP h65]
  have t1:decide (65536<s.size)=true:=decide_eq_true h65;clear HG H1 H2 H3;go_enter Tryz.func13,Tryz.ntmps13;go_wp2_with fail;refine bodyPost_ret (v:=.tuple #[.slice none 0 0,.int .i64 0,.int .i64 2]) (by simp [results,Tryz.results13,go_sem]) rfl ⟨?_,HB0.out⟩;rw [HE.out];exact rfl
 ·have t1:decide (65536<s.size)=false:=dF h65
  have H0:Hid (AtX one w w s (.slice none 0 0) [] (zbE s 0) (s.size+1)):=⟨bR _ _,World.ownsRow_nil _ _ _ _,(zcu (by omega)).2,by have:=(zcu (s:=s) (i:=0) (by omega)).2;omega,by unfold zbf;rw [iN h65],Nat.zero_le _⟩;have HO:Hid (∀b,b<s.size->∀w,Cl 28 #[.string s,.int .i64 ((b:Nat):Int)] w (rB w (zct (one b)))):=fun b hb w=>H1 b hb (by omega) w
  have HE:Hid ((∀b t,b<s.size->one b=.inl t->∃e:Nat,t.en=e/\b<e/\e<=s.size)/\∀b q,one b=.inr q->q.2≠0):=⟨H2,H3⟩;clear H1 H2 H3;go_enter Tryz.func13,Tryz.ntmps13;go_wp2_with fail;refine (HG.out 0 _ (by omega)).mono ?_;rintro e w ⟨rfl,rfl⟩;go_wp2_with fail;go_loopw [5,6] (fun v t wr=>∃(out:List Tk) (i f:Nat),t=.int .i64 i/\Hid (AtX one w wr s v out i f)) (fun _ t _=>s.size - (intOf t).toNat)
  case atStart=>exact ⟨[],zbE s 0,s.size+1,rfl,H0⟩
  case round =>
   obtain ⟨out,i,f,rfl,HW⟩:=hrel;clear H0;have hi:=HW.hi;have hf:=HW.hf;have hol:=HW.hl;by_cases hlt:i<s.size
   ·have z1:(i:Int)<(s.size:Int):=by omega
    obtain ⟨f,rfl⟩:∃g,f=g+1:=⟨f - 1,by omega⟩;have HU:Hid (zbf one s=match one i with
     | .inr q=>.inr q
     | .inl t=>zbT one s f (out++[t]) (zbE s t.en.toNat)):=by show zbf one s=_;rw [<-HW.he,zbT,iP hlt]
    have HOi:=hO (HO i hlt)
    cases ho:one i with
    | inr q =>
     have hne:=HE.2 i q ho;have HV:Hid (zbf one s=.inr q):=by show zbf one s=_;rw [HU.out,ho]
     rw [ho] at HOi;have t3:(q.2 != 0)=true:=by rw [bne,bF hne];rfl
     clear HU HO HE HG ho hne;go_wp2_with fail;refine (HOi _).mono ?_;rintro e w3 ⟨rfl,b3⟩;have HB3:Hid (bW w (w3.alloc (tkO tk0))):=(HW.hb.trans (b3.mono HW.hb.size)).alloc (Nat.le_trans HW.hb.size b3.size) _;clear b3 HOi;unfold zct;go_wp2_with fail;refine bodyPost_ret (v:=.tuple #[.slice none 0 0,.int .i64 q.1,.int .i64 q.2]) (by simp [results,Tryz.results13,go_sem]) rfl ⟨?_,HB3.out⟩;rw [HV.out];exact rfl
    | inl t =>
     obtain ⟨en,he1,he2,he3⟩:=HE.1 i t hlt ho;have HV:Hid (zbT one s f (out++[t]) (zbE s en)=zbf one s):=by show _=zbf one s;rw [HU.out,ho];show _=zbT one s f (out++[t]) (zbE s t.en.toNat);rw [he1];rfl
     rw [ho] at HOi;have hgb:=zcu he3;have HGe:Hid (∀w,Cl 27 #[.string s,.int .i64 t.en] w (rU w (.int .i64 (zbE s en)))):=fun w=>by rw [he1];exact HG en w he3
     clear HU HO HE HG ho he1;go_wp2_with fail;refine (HOi _).mono ?_;rintro e w3 ⟨rfl,b3⟩;have hO:w3.ownsRow w.heap.size 69 9 u5 out.length (tkc out):=zf1 HW.ho b3;have HB3:Hid (bW w w3):=HW.hb.trans (b3.mono HW.hb.size);have hs3:=HB3.size;have HX:Hid (TX (w3.alloc (tkO t)) w3.heap.size t):=TX.new w3 t;clear b3 HOi HW;unfold zct;obtain ⟨c0,c1,c2,c3,c4,c5,c6,c7,c8⟩:=HX.cells;go_wp2_with (at_builtin;refine wpList_append_lies _ rfl _ _ 40 rfl w.heap.size 69 i0 (tkG tk0) 9 80 Tryz.underlying40 hinf hz0 hz1 hz2 rfl (by decide) _ _ _ rfl ((hO.alloc _).alloc _) ⟨w3.heap.size+1,0,none⟩ 1 1 (tkV t) rfl rfl ?c1 (zjg _) (by decide) ?c3 ?c4 ?c5 (w3.heap.size+2) (by simp) ?_)
     case c1 =>
      have hh:=heap_alloc_new (w3.alloc (tkO t)) (.cells (tkC t) 69);rw [sA] at hh;exact World.news_of_block (cs:=tkC t) (t:=69) (fr:=(0,0)) hh
     case c3=>unfold maxLen;omega
     case c4=>omega
     case c5=>first | omega | (simp;omega)
     intro g3 cap w4 hown hgrow hat _;have hgo:∀k,u5.ownBlock=some k->w.heap.size<=k/\k<w3.heap.size:=fun k e=>hO.lt k e
     have HX4:Hid (TX w4 w3.heap.size t):=(HX.below (zaa _ _)).grown hgrow (fun e=>by have:=(hgo _ e).2;omega);have HW4:=(show Hid (AtX one w w4 s (.slice (some ⟨g3,0,none⟩) (out.length+1) cap) (out++[t]) (zbE s en) f) from by
      refine ⟨((HB3.alloc hs3 _).alloc (by rw [sA];omega) _).grown hgrow (by rw [sA,sA];omega) (fun k e=>(hgo k e).1),?_,hgb.2,by omega,HV.out,by rw [lA,List.length_singleton];omega⟩;rw [lA,List.length_singleton,zdR,zgJ];exact hown)
     clear hown hgrow hat hgo hO HB3 HX HV c0 c1 c2 c3 c4 c5 c6 c7 c8;have e3:=HX4.cells.c3;go_wp2_with fail;refine (HGe _).mono ?_;rintro e w4 ⟨rfl,rfl⟩;clear HGe e3 HX4;go_wp2_with fail;go_roundw
     case rel=>exact ⟨_,zbE s en,f,rfl,HW4⟩
     case measure=>simp [intOf];omega
   ·obtain rfl:i=s.size:=by omega
    have z1:¬(s.size:Int)<(s.size:Int):=by omega
    have HV:Hid (zbf one s=.inl out):=by
     show zbf one s=_
     rw [<-HW.he];obtain ⟨f,rfl⟩:∃g,f=g+1:=⟨f - 1,by omega⟩;rw [zbT,iN hlt]
    clear HO HE HG;go_wp2_with fail;refine bodyPost_ret (v:=.tuple #[u5,.int .i64 0,.int .i64 0]) (by simp [results,Tryz.results13,go_sem]) rfl ⟨?_,HW.hb⟩;rw [HV.out];exact ⟨u5,rfl,HW.ho⟩
theorem eq26 (a b c d:Int) (w:World):(Op.equalIn 10000 27 (.agg #[.int .i64 a,.int .i64 b]) (.agg #[.int .i64 c,.int .i64 d])).run Tryz.prog w=.ok (a==c&&b==d) w:=by
 have u3:=Tryz.underlying3;have a3:=Tryz.isAgg3;have z3:=Tryz.sizeOf3;have u4:=Tryz.underlying25;have a4:=Tryz.isAgg25;have z4:=Tryz.sizeOf25;have hS:Tryz.prog.underlying 27=some (.struct (Tryz.prog.fieldsOf 27)):=by kernel_rfl
 have hp:Tryz.prog.stoodInHeld 27=false:=by kernel_rfl
 rw [show (10000:Nat)=9999+1 from rfl,run_equalIn_agg w 9999 27 _ _ hS hp];simp only [Program.fieldsOf,Tryz.underlying27];go_simp
 by_cases h1:a=c <;> by_cases h2:b=d <;> simp [h1,h2]
structure TR (W:World) (g o:Nat) (t:Tk):Prop where
 c0:W.cell? ⟨g,o,none⟩=some (.int .i64 t.kd)
 c1:W.cell? ⟨g,o+1,none⟩=some (.int .i64 t.nn)
 c2:W.cell? ⟨g,o+2,none⟩=some (.int .i64 t.fr)
 c3:W.cell? ⟨g,o+3,none⟩=some (.int .i64 t.en)
 c4:W.cell? ⟨g,o+4,none⟩=some (.string t.tx)
 c5:W.cell? ⟨g,o+5,none⟩=some (.int .u64 t.s0)
 c6:W.cell? ⟨g,o+6,none⟩=some (.int .u64 t.s1)
 c7:W.cell? ⟨g,o+7,none⟩=some (.int .u64 t.s2)
 c8:W.cell? ⟨g,o+8,none⟩=some (.int .u64 t.s3)
structure RdT (W:World) (A:Option Addr) (L:List Tk):Prop where
 rd:L≠[]->∃g,A=some ⟨g,0,none⟩/\g<W.heap.size/\∀(k:Nat) t,L[k]?=some t->TR W g (k * 9) t
theorem znV (L:List Tk):∀(k j:Nat) (t:Tk) (u:Value),L[k]?=some t->(tkV t)[j]?=some u->(tkc L)[k * 9+j]?=some u:=by
 induction L with
 | nil=>intro k j t u h;simp at h
 | cons a L ih =>
  intro k j t u h hj;have e:tkc (a::L)=tkV a++tkc L:=by unfold tkc;rw [List.flatMap_cons]
  have hl:(tkV a).length=9:=rfl;rw [e]
  cases k with
  | zero =>
   have h:a=t:=by simpa using h
   subst h;rw [Nat.zero_mul,Nat.zero_add,List.getElem?_append_left (by have:=(List.getElem?_eq_some_iff.1 hj).1;omega)];exact hj
  | succ k =>
   rw [List.getElem?_append_right (by omega),hl,show (k+1) * 9+j - 9=k * 9+j from by omega];exact ih k j t u (by simpa using h) hj
theorem zjh {W:World} {B n:Nat} {v:Value} {L:List Tk} (h:W.ownsRow B 69 9 v n (tkc L)) (hn:n=L.length):∃A c,v=.slice A L.length c/\RdT W A L:=by
 subst hn;have hc:=h
 rcases h.2 with ⟨rfl,h0⟩ | ⟨g,cap,cur,rfl,_⟩
 ·exact ⟨none,0,by rw [h0],⟨fun hl=>absurd (List.eq_nil_of_length_eq_zero h0) hl⟩⟩
 ·refine ⟨_,cap,rfl,⟨fun _=>⟨g,rfl,(hc.lt g rfl).2,fun k t hk=>?_⟩⟩⟩
  have key:∀j u,(tkV t)[j]?=some u->W.cell? ⟨g,k * 9+j,none⟩=some u:=fun j u hj=>by
   have:=(hc.cells (g:=g) rfl) (k * 9+j) u (znV L k j t u hk hj)
   rwa [Addr.add_lit,Nat.zero_add] at this
  exact ⟨key 0 _ rfl,key 1 _ rfl,key 2 _ rfl,key 3 _ rfl,key 4 _ rfl,key 5 _ rfl,key 6 _ rfl,key 7 _ rfl,key 8 _ rfl⟩
end Go.Proofs.YtkihfkcmcdiajabGreatDoor
