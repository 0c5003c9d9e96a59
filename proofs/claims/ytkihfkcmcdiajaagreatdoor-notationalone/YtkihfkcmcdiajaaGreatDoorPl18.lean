/- DERIVED. Plain mathematics and walks, laid together (18). -/
import Derived.Test.YtkihfkcmcdiajaaGreatDoorPl17
set_option maxRecDepth 100000
set_option maxHeartbeats 8000000
namespace Go.Proofs.YtkihfkcmcdiajaaGreatDoor.T
open Go.RowKit
theorem zae (w:World) (o p:Obj):Below w.heap.size w ((w.alloc o).alloc p):=by
 have h:=zaa w o;exact h.alloc h.size _
theorem zmh (nn:Int) (tx:ByteArray) (a b c d:Int) (_hs:tx.size<=140737488355328) (w:World):Calls Tryz.prog 114 #[.agg #[.int .i64 4,.int .i64 nn,.string tx,.int .u64 a,.int .u64 b,.int .u64 c,.int .u64 d]] w (rB w (.bool (txF 4 tx&&nuF 4 nn&&seF 4 a b c d))):=by
 have sq:=zbJ 4 a b c d (by decide);have hq:=zct a b c d 0 0 0 0
 cases hz:seE a b c d 0 0 0 0 with
 | false =>
  have HF:Hid ((txF 4 tx&&nuF 4 nn&&seF 4 a b c d)=false):=(by show (_&&_)=_;rw [<-sq,hz,Bool.and_false]);rw [hz] at hq;clear sq hz;go_enter Tryz.func114,Tryz.ntmps114;go_wp2_with fail;go_ret
  exact ⟨by rw [HF.out];rfl,zae _ _ _⟩
 | true =>
  have hse:seF 4 a b c d=true:=by rw [<-sq,hz]
  rw [hz] at hq;clear sq hz;have HU:Hid (nuF 4 nn=decide (nn=0)):=rfl;by_cases n1:nn<0
  ·have HF:Hid ((txF 4 tx&&nuF 4 nn&&seF 4 a b c d)=false):=(by show (_&&_)=_;rw [hse,HU.out,dF (by omega),Bool.and_true,Bool.and_false])
   clear HU hse;go_enter Tryz.func114,Tryz.ntmps114;go_wp2_with fail;go_ret
   exact ⟨by rw [HF.out];rfl,zae _ _ _⟩
  by_cases n2:50<nn
  ·have HF:Hid ((txF 4 tx&&nuF 4 nn&&seF 4 a b c d)=false):=(by show (_&&_)=_;rw [hse,HU.out,dF (by omega),Bool.and_true,Bool.and_false])
   clear HU hse;go_enter Tryz.func114,Tryz.ntmps114;go_wp2_with fail;go_ret
   exact ⟨by rw [HF.out];rfl,zae _ _ _⟩
  by_cases n3:nn=0
  rotate_left
  ·have HF:Hid ((txF 4 tx&&nuF 4 nn&&seF 4 a b c d)=false):=(by show (_&&_)=_;rw [hse,HU.out,dF n3,Bool.and_true,Bool.and_false])
   have f3:(nn==0)=false:=bF n3;clear HU hse n3;go_enter Tryz.func114,Tryz.ntmps114;go_wp2_with fail;go_ret
   exact ⟨by rw [HF.out];rfl,zae _ _ _⟩
  have f3:(nn==0)=true:=beq_iff_eq.2 n3;have HF:Hid ((txF 4 tx&&nuF 4 nn&&seF 4 a b c d)=txF 4 tx):=(by show (_&&_)=_;rw [hse,HU.out,decide_eq_true (by omega),Bool.and_true,Bool.and_true]);clear hse HU n3;by_cases q0:(tx.size:Int)<1
  ·have HG:Hid (txF 4 tx=false):=(by show txF 4 tx=_;unfold txF;rw [iP rfl,dF (by omega)])
   go_enter Tryz.func114,Tryz.ntmps114;go_wp2_with fail;go_ret
   exact ⟨by rw [HF.out,HG.out];rfl,zae _ _ _⟩
  ·have HG:Hid (txF 4 tx=decide ((tx.size:Int)<=255)):=(by
    show txF 4 tx=_
    unfold txF;rw [iP rfl];by_cases q:tx.size<=255
    ·rw [decide_eq_true (by omega),decide_eq_true (by omega)]
    ·rw [dF (by omega),dF (by omega)])
   go_enter Tryz.func114,Tryz.ntmps114;go_wp2_with fail;go_ret
   exact ⟨by rw [HF.out,HG.out];rfl,zae _ _ _⟩
theorem zmi (nn:Int) (tx:ByteArray) (a b c d:Int) (hs:tx.size<=140737488355328) (w:World):Calls Tryz.prog 114 #[.agg #[.int .i64 6,.int .i64 nn,.string tx,.int .u64 a,.int .u64 b,.int .u64 c,.int .u64 d]] w (rB w (.bool (txF 6 tx&&nuF 6 nn&&seF 6 a b c d))):=by
 have sq:=zbJ 6 a b c d (by decide);have hq:=zct a b c d 0 0 0 0
 cases hz:seE a b c d 0 0 0 0 with
 | false =>
  have HF:Hid ((txF 6 tx&&nuF 6 nn&&seF 6 a b c d)=false):=(by show (_&&_)=_;rw [<-sq,hz,Bool.and_false]);rw [hz] at hq;clear sq hz;go_enter Tryz.func114,Tryz.ntmps114;go_wp2_with fail;go_ret
  exact ⟨by rw [HF.out];rfl,zae _ _ _⟩
 | true =>
  have hse:seF 6 a b c d=true:=by rw [<-sq,hz]
  rw [hz] at hq;clear sq hz;have HU:Hid (nuF 6 nn=decide (nn=0)):=rfl;by_cases n1:nn<0
  ·have HF:Hid ((txF 6 tx&&nuF 6 nn&&seF 6 a b c d)=false):=(by show (_&&_)=_;rw [hse,HU.out,dF (by omega),Bool.and_true,Bool.and_false])
   clear HU hse;go_enter Tryz.func114,Tryz.ntmps114;go_wp2_with fail;go_ret
   exact ⟨by rw [HF.out];rfl,zae _ _ _⟩
  by_cases n2:50<nn
  ·have HF:Hid ((txF 6 tx&&nuF 6 nn&&seF 6 a b c d)=false):=(by show (_&&_)=_;rw [hse,HU.out,dF (by omega),Bool.and_true,Bool.and_false])
   clear HU hse;go_enter Tryz.func114,Tryz.ntmps114;go_wp2_with fail;go_ret
   exact ⟨by rw [HF.out];rfl,zae _ _ _⟩
  by_cases n3:nn=0
  rotate_left
  ·have HF:Hid ((txF 6 tx&&nuF 6 nn&&seF 6 a b c d)=false):=(by show (_&&_)=_;rw [hse,HU.out,dF n3,Bool.and_true,Bool.and_false])
   have f3:(nn==0)=false:=bF n3;clear HU hse n3;go_enter Tryz.func114,Tryz.ntmps114;go_wp2_with fail;go_ret
   exact ⟨by rw [HF.out];rfl,zae _ _ _⟩
  have f3:(nn==0)=true:=beq_iff_eq.2 n3;have HF:Hid ((txF 6 tx&&nuF 6 nn&&seF 6 a b c d)=txF 6 tx):=(by show (_&&_)=_;rw [hse,HU.out,decide_eq_true (by omega),Bool.and_true,Bool.and_true]);clear hse HU n3;have HN:Hid (∀w,Cl 142 #[.string tx] w (rU w (.bool (nmB tx)))):=fun w=>zgm tx hs w
  have HG:Hid (txF 6 tx=nmB tx):=rfl;go_enter Tryz.func114,Tryz.ntmps114;go_wp2_with fail;refine (HN _).mono ?_;rintro e w2 ⟨rfl,rfl⟩;clear HN;go_wp2_with fail;go_ret
  exact ⟨by rw [HF.out,HG.out];rfl,zae _ _ _⟩
theorem zkG (nn:Int) (tx:ByteArray) (a b c d:Int) (hs:tx.size<=140737488355328) (w:World):Calls Tryz.prog 114 #[.agg #[.int .i64 19,.int .i64 nn,.string tx,.int .u64 a,.int .u64 b,.int .u64 c,.int .u64 d]] w (rB w (.bool (txF 19 tx&&nuF 19 nn&&seF 19 a b c d))):=by
 have sq:=zbJ 19 a b c d (by decide);have hq:=zct a b c d 0 0 0 0
 cases hz:seE a b c d 0 0 0 0 with
 | false =>
  have HF:Hid ((txF 19 tx&&nuF 19 nn&&seF 19 a b c d)=false):=(by show (_&&_)=_;rw [<-sq,hz,Bool.and_false]);rw [hz] at hq;clear sq hz;go_enter Tryz.func114,Tryz.ntmps114;go_wp2_with fail;go_ret
  exact ⟨by rw [HF.out];rfl,zae _ _ _⟩
 | true =>
  have hse:seF 19 a b c d=true:=by rw [<-sq,hz]
  rw [hz] at hq;clear sq hz;have HU:Hid (nuF 19 nn=decide (nn=0)):=rfl;by_cases n1:nn<0
  ·have HF:Hid ((txF 19 tx&&nuF 19 nn&&seF 19 a b c d)=false):=(by show (_&&_)=_;rw [hse,HU.out,dF (by omega),Bool.and_true,Bool.and_false])
   clear HU hse;go_enter Tryz.func114,Tryz.ntmps114;go_wp2_with fail;go_ret
   exact ⟨by rw [HF.out];rfl,zae _ _ _⟩
  by_cases n2:50<nn
  ·have HF:Hid ((txF 19 tx&&nuF 19 nn&&seF 19 a b c d)=false):=(by show (_&&_)=_;rw [hse,HU.out,dF (by omega),Bool.and_true,Bool.and_false])
   clear HU hse;go_enter Tryz.func114,Tryz.ntmps114;go_wp2_with fail;go_ret
   exact ⟨by rw [HF.out];rfl,zae _ _ _⟩
  by_cases n3:nn=0
  rotate_left
  ·have HF:Hid ((txF 19 tx&&nuF 19 nn&&seF 19 a b c d)=false):=(by show (_&&_)=_;rw [hse,HU.out,dF n3,Bool.and_true,Bool.and_false])
   have f3:(nn==0)=false:=bF n3;clear HU hse n3;go_enter Tryz.func114,Tryz.ntmps114;go_wp2_with fail;go_ret
   exact ⟨by rw [HF.out];rfl,zae _ _ _⟩
  have f3:(nn==0)=true:=beq_iff_eq.2 n3;have HF:Hid ((txF 19 tx&&nuF 19 nn&&seF 19 a b c d)=txF 19 tx):=(by show (_&&_)=_;rw [hse,HU.out,decide_eq_true (by omega),Bool.and_true,Bool.and_true]);clear hse HU n3;by_cases q0:tx.size=0
  ·have HG:Hid (txF 19 tx=true):=(by show txF 19 tx=_;unfold txF;rw [iN (by decide),iN (by decide),iP rfl,decide_eq_true q0];rfl)
   have t0:=zek q0;clear q0;go_enter Tryz.func114,Tryz.ntmps114;go_wp2_with fail;go_ret
   exact ⟨by rw [HF.out,HG.out];rfl,zae _ _ _⟩
  ·have HG:Hid (txF 19 tx=nmB tx):=(by show txF 19 tx=_;unfold txF;rw [iN (by decide),iN (by decide),iP rfl,dF q0];rfl)
   have t0:=zdL q0;have HN:Hid (∀w,Cl 142 #[.string tx] w (rU w (.bool (nmB tx)))):=fun w=>zgm tx hs w
   clear q0;go_enter Tryz.func114,Tryz.ntmps114;go_wp2_with fail;refine (HN _).mono ?_;rintro e w2 ⟨rfl,rfl⟩;clear HN;go_wp2_with fail;go_ret
   exact ⟨by rw [HF.out,HG.out];rfl,zae _ _ _⟩
theorem zkH (nn:Int) (tx:ByteArray) (a b c d:Int) (hs:tx.size<=140737488355328) (w:World):Calls Tryz.prog 114 #[.agg #[.int .i64 22,.int .i64 nn,.string tx,.int .u64 a,.int .u64 b,.int .u64 c,.int .u64 d]] w (rB w (.bool (txF 22 tx&&nuF 22 nn&&seF 22 a b c d))):=by
 have sq:=zbJ 22 a b c d (by decide);have hq:=zct a b c d 0 0 0 0
 cases hz:seE a b c d 0 0 0 0 with
 | false =>
  have HF:Hid ((txF 22 tx&&nuF 22 nn&&seF 22 a b c d)=false):=(by show (_&&_)=_;rw [<-sq,hz,Bool.and_false]);rw [hz] at hq;clear sq hz;go_enter Tryz.func114,Tryz.ntmps114;go_wp2_with fail;go_ret
  exact ⟨by rw [HF.out];rfl,zae _ _ _⟩
 | true =>
  have hse:seF 22 a b c d=true:=by rw [<-sq,hz]
  rw [hz] at hq;clear sq hz;have HU:Hid (nuF 22 nn=decide (nn=0)):=rfl;by_cases n1:nn<0
  ·have HF:Hid ((txF 22 tx&&nuF 22 nn&&seF 22 a b c d)=false):=(by show (_&&_)=_;rw [hse,HU.out,dF (by omega),Bool.and_true,Bool.and_false])
   clear HU hse;go_enter Tryz.func114,Tryz.ntmps114;go_wp2_with fail;go_ret
   exact ⟨by rw [HF.out];rfl,zae _ _ _⟩
  by_cases n2:50<nn
  ·have HF:Hid ((txF 22 tx&&nuF 22 nn&&seF 22 a b c d)=false):=(by show (_&&_)=_;rw [hse,HU.out,dF (by omega),Bool.and_true,Bool.and_false])
   clear HU hse;go_enter Tryz.func114,Tryz.ntmps114;go_wp2_with fail;go_ret
   exact ⟨by rw [HF.out];rfl,zae _ _ _⟩
  by_cases n3:nn=0
  rotate_left
  ·have HF:Hid ((txF 22 tx&&nuF 22 nn&&seF 22 a b c d)=false):=(by show (_&&_)=_;rw [hse,HU.out,dF n3,Bool.and_true,Bool.and_false])
   have f3:(nn==0)=false:=bF n3;clear HU hse n3;go_enter Tryz.func114,Tryz.ntmps114;go_wp2_with fail;go_ret
   exact ⟨by rw [HF.out];rfl,zae _ _ _⟩
  have f3:(nn==0)=true:=beq_iff_eq.2 n3;have HF:Hid ((txF 22 tx&&nuF 22 nn&&seF 22 a b c d)=txF 22 tx):=(by show (_&&_)=_;rw [hse,HU.out,decide_eq_true (by omega),Bool.and_true,Bool.and_true]);clear hse HU n3;have HN:Hid (∀w,Cl 143 #[.string tx] w (rU w (.bool (tmB tx)))):=fun w=>zdx tx hs w
  have HG:Hid (txF 22 tx=tmB tx):=rfl;go_enter Tryz.func114,Tryz.ntmps114;go_wp2_with fail;refine (HN _).mono ?_;rintro e w2 ⟨rfl,rfl⟩;clear HN;go_wp2_with fail;go_ret
  exact ⟨by rw [HF.out,HG.out];rfl,zae _ _ _⟩
theorem zmj (nn:Int) (tx:ByteArray) (a b c d:Int) (_hs:tx.size<=140737488355328) (w:World):Calls Tryz.prog 114 #[.agg #[.int .i64 5,.int .i64 nn,.string tx,.int .u64 a,.int .u64 b,.int .u64 c,.int .u64 d]] w (rB w (.bool (txF 5 tx&&nuF 5 nn&&seF 5 a b c d))):=by
 have hse:seF 5 a b c d=true:=rfl;have HU:Hid (nuF 5 nn=decide (nn=0)):=rfl;by_cases n1:nn<0
 ·have HF:Hid ((txF 5 tx&&nuF 5 nn&&seF 5 a b c d)=false):=(by show (_&&_)=_;rw [hse,HU.out,dF (by omega),Bool.and_true,Bool.and_false])
  clear HU hse;go_enter Tryz.func114,Tryz.ntmps114;go_wp2_with fail;go_ret
  exact ⟨by rw [HF.out];rfl,zae _ _ _⟩
 by_cases n2:50<nn
 ·have HF:Hid ((txF 5 tx&&nuF 5 nn&&seF 5 a b c d)=false):=(by show (_&&_)=_;rw [hse,HU.out,dF (by omega),Bool.and_true,Bool.and_false])
  clear HU hse;go_enter Tryz.func114,Tryz.ntmps114;go_wp2_with fail;go_ret
  exact ⟨by rw [HF.out];rfl,zae _ _ _⟩
 by_cases n3:nn=0
 rotate_left
 ·have HF:Hid ((txF 5 tx&&nuF 5 nn&&seF 5 a b c d)=false):=(by show (_&&_)=_;rw [hse,HU.out,dF n3,Bool.and_true,Bool.and_false])
  have f3:(nn==0)=false:=bF n3;clear HU hse n3;go_enter Tryz.func114,Tryz.ntmps114;go_wp2_with fail;go_ret
  exact ⟨by rw [HF.out];rfl,zae _ _ _⟩
 have f3:(nn==0)=true:=beq_iff_eq.2 n3;have HF:Hid ((txF 5 tx&&nuF 5 nn&&seF 5 a b c d)=txF 5 tx):=(by show (_&&_)=_;rw [hse,HU.out,decide_eq_true (by omega),Bool.and_true,Bool.and_true]);clear hse HU n3;have HT:Hid (txF 5 tx=decide (tx.size=0)):=rfl;by_cases q0:tx.size=0
 ·have HG:Hid (txF 5 tx=true):=(by show txF _ tx=_;rw [HT.out,decide_eq_true q0])
  have t0:=zek q0;clear q0;go_enter Tryz.func114,Tryz.ntmps114;go_wp2_with fail;go_ret
  exact ⟨by rw [HF.out,HG.out];rfl,zae _ _ _⟩
 ·have HG:Hid (txF 5 tx=false):=(by show txF _ tx=_;rw [HT.out,dF q0])
  have t0:=zdL q0;clear q0;go_enter Tryz.func114,Tryz.ntmps114;go_wp2_with fail;go_ret
  exact ⟨by rw [HF.out,HG.out];rfl,zae _ _ _⟩
theorem zkI (nn:Int) (tx:ByteArray) (a b c d:Int) (_hs:tx.size<=140737488355328) (w:World):Calls Tryz.prog 114 #[.agg #[.int .i64 14,.int .i64 nn,.string tx,.int .u64 a,.int .u64 b,.int .u64 c,.int .u64 d]] w (rB w (.bool (txF 14 tx&&nuF 14 nn&&seF 14 a b c d))):=by
 have sq:=zbJ 14 a b c d (by decide);have hq:=zct a b c d 0 0 0 0
 cases hz:seE a b c d 0 0 0 0 with
 | false =>
  have HF:Hid ((txF 14 tx&&nuF 14 nn&&seF 14 a b c d)=false):=(by show (_&&_)=_;rw [<-sq,hz,Bool.and_false]);rw [hz] at hq;clear sq hz;go_enter Tryz.func114,Tryz.ntmps114;go_wp2_with fail;go_ret
  exact ⟨by rw [HF.out];rfl,zae _ _ _⟩
 | true =>
  have hse:seF 14 a b c d=true:=by rw [<-sq,hz]
  rw [hz] at hq;clear sq hz;have HU:Hid (nuF 14 nn=decide (0<=nn/\nn<=50)):=rfl;by_cases n1:nn<0
  ·have HF:Hid ((txF 14 tx&&nuF 14 nn&&seF 14 a b c d)=false):=(by show (_&&_)=_;rw [hse,HU.out,dF (by omega),Bool.and_true,Bool.and_false])
   clear HU hse;go_enter Tryz.func114,Tryz.ntmps114;go_wp2_with fail;go_ret
   exact ⟨by rw [HF.out];rfl,zae _ _ _⟩
  by_cases n2:50<nn
  ·have HF:Hid ((txF 14 tx&&nuF 14 nn&&seF 14 a b c d)=false):=(by show (_&&_)=_;rw [hse,HU.out,dF (by omega),Bool.and_true,Bool.and_false])
   clear HU hse;go_enter Tryz.func114,Tryz.ntmps114;go_wp2_with fail;go_ret
   exact ⟨by rw [HF.out];rfl,zae _ _ _⟩
  have HF:Hid ((txF 14 tx&&nuF 14 nn&&seF 14 a b c d)=txF 14 tx):=(by show (_&&_)=_;rw [hse,HU.out,decide_eq_true (by omega),Bool.and_true,Bool.and_true]);clear hse HU;have HT:Hid (txF 14 tx=decide (tx.size=0)):=rfl;by_cases q0:tx.size=0
  ·have HG:Hid (txF 14 tx=true):=(by show txF _ tx=_;rw [HT.out,decide_eq_true q0])
   have t0:=zek q0;clear q0;go_enter Tryz.func114,Tryz.ntmps114;go_wp2_with fail;go_ret
   exact ⟨by rw [HF.out,HG.out];rfl,zae _ _ _⟩
  ·have HG:Hid (txF 14 tx=false):=(by show txF _ tx=_;rw [HT.out,dF q0])
   have t0:=zdL q0;clear q0;go_enter Tryz.func114,Tryz.ntmps114;go_wp2_with fail;go_ret
   exact ⟨by rw [HF.out,HG.out];rfl,zae _ _ _⟩
theorem zkJ (nn:Int) (tx:ByteArray) (a b c d:Int) (_hs:tx.size<=140737488355328) (w:World):Calls Tryz.prog 114 #[.agg #[.int .i64 15,.int .i64 nn,.string tx,.int .u64 a,.int .u64 b,.int .u64 c,.int .u64 d]] w (rB w (.bool (txF 15 tx&&nuF 15 nn&&seF 15 a b c d))):=by
 have sq:=zbJ 15 a b c d (by decide);have hq:=zct a b c d 0 0 0 0
 cases hz:seE a b c d 0 0 0 0 with
 | false =>
  have HF:Hid ((txF 15 tx&&nuF 15 nn&&seF 15 a b c d)=false):=(by show (_&&_)=_;rw [<-sq,hz,Bool.and_false]);rw [hz] at hq;clear sq hz;go_enter Tryz.func114,Tryz.ntmps114;go_wp2_with fail;go_ret
  exact ⟨by rw [HF.out];rfl,zae _ _ _⟩
 | true =>
  have hse:seF 15 a b c d=true:=by rw [<-sq,hz]
  rw [hz] at hq;clear sq hz;have HU:Hid (nuF 15 nn=decide (0<=nn/\nn<=50)):=rfl;by_cases n1:nn<0
  ·have HF:Hid ((txF 15 tx&&nuF 15 nn&&seF 15 a b c d)=false):=(by show (_&&_)=_;rw [hse,HU.out,dF (by omega),Bool.and_true,Bool.and_false])
   clear HU hse;go_enter Tryz.func114,Tryz.ntmps114;go_wp2_with fail;go_ret
   exact ⟨by rw [HF.out];rfl,zae _ _ _⟩
  by_cases n2:50<nn
  ·have HF:Hid ((txF 15 tx&&nuF 15 nn&&seF 15 a b c d)=false):=(by show (_&&_)=_;rw [hse,HU.out,dF (by omega),Bool.and_true,Bool.and_false])
   clear HU hse;go_enter Tryz.func114,Tryz.ntmps114;go_wp2_with fail;go_ret
   exact ⟨by rw [HF.out];rfl,zae _ _ _⟩
  have HF:Hid ((txF 15 tx&&nuF 15 nn&&seF 15 a b c d)=txF 15 tx):=(by show (_&&_)=_;rw [hse,HU.out,decide_eq_true (by omega),Bool.and_true,Bool.and_true]);clear hse HU;have HT:Hid (txF 15 tx=decide (tx.size=0)):=rfl;by_cases q0:tx.size=0
  ·have HG:Hid (txF 15 tx=true):=(by show txF _ tx=_;rw [HT.out,decide_eq_true q0])
   have t0:=zek q0;clear q0;go_enter Tryz.func114,Tryz.ntmps114;go_wp2_with fail;go_ret
   exact ⟨by rw [HF.out,HG.out];rfl,zae _ _ _⟩
  ·have HG:Hid (txF 15 tx=false):=(by show txF _ tx=_;rw [HT.out,dF q0])
   have t0:=zdL q0;clear q0;go_enter Tryz.func114,Tryz.ntmps114;go_wp2_with fail;go_ret
   exact ⟨by rw [HF.out,HG.out];rfl,zae _ _ _⟩
theorem zkK (nn:Int) (tx:ByteArray) (a b c d:Int) (_hs:tx.size<=140737488355328) (w:World):Calls Tryz.prog 114 #[.agg #[.int .i64 16,.int .i64 nn,.string tx,.int .u64 a,.int .u64 b,.int .u64 c,.int .u64 d]] w (rB w (.bool (txF 16 tx&&nuF 16 nn&&seF 16 a b c d))):=by
 have sq:=zbJ 16 a b c d (by decide);have hq:=zct a b c d 0 0 0 0
 cases hz:seE a b c d 0 0 0 0 with
 | false =>
  have HF:Hid ((txF 16 tx&&nuF 16 nn&&seF 16 a b c d)=false):=(by show (_&&_)=_;rw [<-sq,hz,Bool.and_false]);rw [hz] at hq;clear sq hz;go_enter Tryz.func114,Tryz.ntmps114;go_wp2_with fail;go_ret
  exact ⟨by rw [HF.out];rfl,zae _ _ _⟩
 | true =>
  have hse:seF 16 a b c d=true:=by rw [<-sq,hz]
  rw [hz] at hq;clear sq hz;have HU:Hid (nuF 16 nn=decide (0<=nn/\nn<=50)):=rfl;by_cases n1:nn<0
  ·have HF:Hid ((txF 16 tx&&nuF 16 nn&&seF 16 a b c d)=false):=(by show (_&&_)=_;rw [hse,HU.out,dF (by omega),Bool.and_true,Bool.and_false])
   clear HU hse;go_enter Tryz.func114,Tryz.ntmps114;go_wp2_with fail;go_ret
   exact ⟨by rw [HF.out];rfl,zae _ _ _⟩
  by_cases n2:50<nn
  ·have HF:Hid ((txF 16 tx&&nuF 16 nn&&seF 16 a b c d)=false):=(by show (_&&_)=_;rw [hse,HU.out,dF (by omega),Bool.and_true,Bool.and_false])
   clear HU hse;go_enter Tryz.func114,Tryz.ntmps114;go_wp2_with fail;go_ret
   exact ⟨by rw [HF.out];rfl,zae _ _ _⟩
  have HF:Hid ((txF 16 tx&&nuF 16 nn&&seF 16 a b c d)=txF 16 tx):=(by show (_&&_)=_;rw [hse,HU.out,decide_eq_true (by omega),Bool.and_true,Bool.and_true]);clear hse HU;have HT:Hid (txF 16 tx=decide (tx.size=0)):=rfl;by_cases q0:tx.size=0
  ·have HG:Hid (txF 16 tx=true):=(by show txF _ tx=_;rw [HT.out,decide_eq_true q0])
   have t0:=zek q0;clear q0;go_enter Tryz.func114,Tryz.ntmps114;go_wp2_with fail;go_ret
   exact ⟨by rw [HF.out,HG.out];rfl,zae _ _ _⟩
  ·have HG:Hid (txF 16 tx=false):=(by show txF _ tx=_;rw [HT.out,dF q0])
   have t0:=zdL q0;clear q0;go_enter Tryz.func114,Tryz.ntmps114;go_wp2_with fail;go_ret
   exact ⟨by rw [HF.out,HG.out];rfl,zae _ _ _⟩
theorem zkL (nn:Int) (tx:ByteArray) (a b c d:Int) (_hs:tx.size<=140737488355328) (w:World):Calls Tryz.prog 114 #[.agg #[.int .i64 23,.int .i64 nn,.string tx,.int .u64 a,.int .u64 b,.int .u64 c,.int .u64 d]] w (rB w (.bool (txF 23 tx&&nuF 23 nn&&seF 23 a b c d))):=by
 have sq:=zbJ 23 a b c d (by decide);have hq:=zct a b c d 0 0 0 0
 cases hz:seE a b c d 0 0 0 0 with
 | false =>
  have HF:Hid ((txF 23 tx&&nuF 23 nn&&seF 23 a b c d)=false):=(by show (_&&_)=_;rw [<-sq,hz,Bool.and_false]);rw [hz] at hq;clear sq hz;go_enter Tryz.func114,Tryz.ntmps114;go_wp2_with fail;go_ret
  exact ⟨by rw [HF.out];rfl,zae _ _ _⟩
 | true =>
  have hse:seF 23 a b c d=true:=by rw [<-sq,hz]
  rw [hz] at hq;clear sq hz;have HU:Hid (nuF 23 nn=decide (0<=nn/\nn<=50)):=rfl;by_cases n1:nn<0
  ·have HF:Hid ((txF 23 tx&&nuF 23 nn&&seF 23 a b c d)=false):=(by show (_&&_)=_;rw [hse,HU.out,dF (by omega),Bool.and_true,Bool.and_false])
   clear HU hse;go_enter Tryz.func114,Tryz.ntmps114;go_wp2_with fail;go_ret
   exact ⟨by rw [HF.out];rfl,zae _ _ _⟩
  by_cases n2:50<nn
  ·have HF:Hid ((txF 23 tx&&nuF 23 nn&&seF 23 a b c d)=false):=(by show (_&&_)=_;rw [hse,HU.out,dF (by omega),Bool.and_true,Bool.and_false])
   clear HU hse;go_enter Tryz.func114,Tryz.ntmps114;go_wp2_with fail;go_ret
   exact ⟨by rw [HF.out];rfl,zae _ _ _⟩
  have HF:Hid ((txF 23 tx&&nuF 23 nn&&seF 23 a b c d)=txF 23 tx):=(by show (_&&_)=_;rw [hse,HU.out,decide_eq_true (by omega),Bool.and_true,Bool.and_true]);clear hse HU;have HT:Hid (txF 23 tx=decide (tx.size=0)):=rfl;by_cases q0:tx.size=0
  ·have HG:Hid (txF 23 tx=true):=(by show txF _ tx=_;rw [HT.out,decide_eq_true q0])
   have t0:=zek q0;clear q0;go_enter Tryz.func114,Tryz.ntmps114;go_wp2_with fail;go_ret
   exact ⟨by rw [HF.out,HG.out];rfl,zae _ _ _⟩
  ·have HG:Hid (txF 23 tx=false):=(by show txF _ tx=_;rw [HT.out,dF q0])
   have t0:=zdL q0;clear q0;go_enter Tryz.func114,Tryz.ntmps114;go_wp2_with fail;go_ret
   exact ⟨by rw [HF.out,HG.out];rfl,zae _ _ _⟩
theorem zir (op nn:Int) (tx:ByteArray) (a b c d:Int) (_hs:tx.size<=140737488355328) (h4:¬op=4) (h6:¬op=6) (h19:¬op=19) (h22:¬op=22) (h5:¬op=5) (h14:¬op=14) (h15:¬op=15) (h16:¬op=16) (h23:¬op=23) (w:World):Calls Tryz.prog 114 #[.agg #[.int .i64 op,.int .i64 nn,.string tx,.int .u64 a,.int .u64 b,.int .u64 c,.int .u64 d]] w (rB w (.bool (txF op tx&&nuF op nn&&seF op a b c d))):=by
 have e4:(op==4)=false:=bF h4;have e6:(op==6)=false:=bF h6;have e19:(op==19)=false:=bF h19;have e22:(op==22)=false:=bF h22;have e5:(op != 5)=true:=by rw [bne,bF h5];rfl
 have e14:(op==14)=false:=bF h14;have e15:(op==15)=false:=bF h15;have e16:(op==16)=false:=bF h16;have e23:(op==23)=false:=bF h23;have sq:=zbJ op a b c d h5;have hq:=zct a b c d 0 0 0 0
 cases hz:seE a b c d 0 0 0 0 with
 | false =>
  have HF:Hid ((txF op tx&&nuF op nn&&seF op a b c d)=false):=(by show (_&&_)=_;rw [<-sq,hz,Bool.and_false]);rw [hz] at hq;clear sq hz h4 h6 h19 h22 h5 h14 h15 h16 h23;go_enter Tryz.func114,Tryz.ntmps114;go_wp2_with fail;go_ret
  exact ⟨by rw [HF.out];rfl,zae _ _ _⟩
 | true =>
  have hse:seF op a b c d=true:=by rw [<-sq,hz]
  rw [hz] at hq;clear sq hz;have HU:Hid (nuF op nn=decide (nn=0)):=(by show nuF op nn=_;unfold nuF;rw [iN (by omega)]);by_cases n1:nn<0
  ·have HF:Hid ((txF op tx&&nuF op nn&&seF op a b c d)=false):=(by show (_&&_)=_;rw [hse,HU.out,dF (by omega),Bool.and_true,Bool.and_false])
   clear HU hse h4 h6 h19 h22 h5 h14 h15 h16 h23;go_enter Tryz.func114,Tryz.ntmps114;go_wp2_with fail;go_ret
   exact ⟨by rw [HF.out];rfl,zae _ _ _⟩
  by_cases n2:50<nn
  ·have HF:Hid ((txF op tx&&nuF op nn&&seF op a b c d)=false):=(by show (_&&_)=_;rw [hse,HU.out,dF (by omega),Bool.and_true,Bool.and_false])
   clear HU hse h4 h6 h19 h22 h5 h14 h15 h16 h23;go_enter Tryz.func114,Tryz.ntmps114;go_wp2_with fail;go_ret
   exact ⟨by rw [HF.out];rfl,zae _ _ _⟩
  by_cases n3:nn=0
  rotate_left
  ·have HF:Hid ((txF op tx&&nuF op nn&&seF op a b c d)=false):=(by show (_&&_)=_;rw [hse,HU.out,dF n3,Bool.and_true,Bool.and_false])
   have f3:(nn==0)=false:=bF n3;clear HU hse n3 h4 h6 h19 h22 h5 h14 h15 h16 h23;go_enter Tryz.func114,Tryz.ntmps114;go_wp2_with fail;go_ret
   exact ⟨by rw [HF.out];rfl,zae _ _ _⟩
  have f3:(nn==0)=true:=beq_iff_eq.2 n3;have HF:Hid ((txF op tx&&nuF op nn&&seF op a b c d)=txF op tx):=(by show (_&&_)=_;rw [hse,HU.out,decide_eq_true (by omega),Bool.and_true,Bool.and_true]);clear hse HU n3;have HT:Hid (txF op tx=decide (tx.size=0)):=(by show txF op tx=_;unfold txF;rw [iN h4,iN h6,iN h19,iN h22]);clear h4 h6 h19 h22 h5 h14 h15 h16 h23;by_cases q0:tx.size=0
  ·have HG:Hid (txF op tx=true):=(by show txF _ tx=_;rw [HT.out,decide_eq_true q0])
   have t0:=zek q0;clear q0;go_enter Tryz.func114,Tryz.ntmps114;go_wp2_with fail;go_ret
   exact ⟨by rw [HF.out,HG.out];rfl,zae _ _ _⟩
  ·have HG:Hid (txF op tx=false):=(by show txF _ tx=_;rw [HT.out,dF q0])
   have t0:=zdL q0;clear q0;go_enter Tryz.func114,Tryz.ntmps114;go_wp2_with fail;go_ret
   exact ⟨by rw [HF.out,HG.out];rfl,zae _ _ _⟩
theorem fieldR (n:Nd) (hs:n.tx.size<=140737488355328) (w:World):Calls Tryz.prog 114 #[ndG n] w (rB w (.bool (fdF n))):=by
 obtain ⟨op,nn,tx,a,b,c,d⟩:=n
 show Calls Tryz.prog 114 #[.agg #[.int .i64 op,.int .i64 nn,.string tx,.int .u64 a,.int .u64 b,.int .u64 c,.int .u64 d]] w (rB w (.bool (txF op tx&&nuF op nn&&seF op a b c d)))
 by_cases h4:op=4
 ·subst h4;exact zmh nn tx a b c d hs w
 by_cases h6:op=6
 ·subst h6;exact zmi nn tx a b c d hs w
 by_cases h19:op=19
 ·subst h19;exact zkG nn tx a b c d hs w
 by_cases h22:op=22
 ·subst h22;exact zkH nn tx a b c d hs w
 by_cases h5:op=5
 ·subst h5;exact zmj nn tx a b c d hs w
 by_cases h14:op=14
 ·subst h14;exact zkI nn tx a b c d hs w
 by_cases h15:op=15
 ·subst h15;exact zkJ nn tx a b c d hs w
 by_cases h16:op=16
 ·subst h16;exact zkK nn tx a b c d hs w
 by_cases h23:op=23
 ·subst h23;exact zkL nn tx a b c d hs w
 exact zir op nn tx a b c d hs h4 h6 h19 h22 h5 h14 h15 h16 h23 w
theorem Tryz.info3:(Tryz.prog.info? 3).map (fun i=>(i.zero,i.size,i.bytes))=some (some (.int .i64 0),1,8):=by kernel_rfl
def bgc (L:List Nd) (k:Nat):List Value:=(List.range k).map fun j=>.int .i64 (pt L j).1
def hic (L:List Nd) (k:Nat):List Value:=(List.range k).map fun j=>.int .i64 (pt L j).2.2
theorem zmk (L:List Nd) (k:Nat):bgc L (k+1)=bgc L k++[.int .i64 (pt L k).1]:=by unfold bgc;rw [List.range_succ,List.map_append];rfl
theorem zml (L:List Nd) (k:Nat):hic L (k+1)=hic L k++[.int .i64 (pt L k).2.2]:=by unfold hic;rw [List.range_succ,List.map_append];rfl
theorem zdS {L:List Nd} {k j:Nat} (h:j<k):(bgc L k)[j]?=some (.int .i64 (pt L j).1):=by unfold bgc;rw [List.getElem?_map,List.getElem?_range h];rfl
theorem zoK {L:List Nd} {k j:Nat} (h:j<k):(hic L k)[j]?=some (.int .i64 (pt L j).2.2):=by unfold hic;rw [List.getElem?_map,List.getElem?_range h];rfl
structure AtF (L:List Nd) (w wr:World) (k:Nat) (v1 v2:Value):Prop where
 o1:wr.ownsRow w.heap.size 3 1 v1 k (bgc L k)
 o2:wr.ownsRow w.heap.size 3 1 v2 k (hic L k)
 ne:∀g,v1.ownBlock=some g->v2.ownBlock≠some g
 b:Below w.heap.size w wr
 e:∀j,j<k->er L j=0
theorem AtF.below {L:List Nd} {w wr w2:World} {k:Nat} {v1 v2:Value} (h:AtF L w wr k v1 v2) (hb:Below wr.heap.size wr w2):AtF L w w2 k v1 v2 :=
 ⟨zbA h.o1 hb,zbA h.o2 hb,h.ne,h.b.trans (hb.mono h.b.size),h.e⟩
theorem AtF.form {L:List Nd} {w wr:World} {k:Nat} {v1 v2:Value} (h:AtF L w wr k v1 v2):∃A1 c1 A2 c2,v1=.slice A1 k c1/\v2=.slice A2 k c2/\(0<k->∃g1 g2,A1=some ⟨g1,0,none⟩/\A2=some ⟨g2,0,none⟩):=by
 obtain ⟨A1,c1,e1,q1⟩:∃A1 c1,v1=.slice A1 k c1/\(0<k->∃g,A1=some ⟨g,0,none⟩):=by
  rcases h.o1.2 with ⟨a,b⟩ | ⟨g,cap,cur,a,_⟩
  ·exact ⟨none,0,by rw [a,b],fun q=>by omega⟩
  ·exact ⟨_,cap,a,fun _=>⟨g,rfl⟩⟩
 obtain ⟨A2,c2,e2,q2⟩:∃A2 c2,v2=.slice A2 k c2/\(0<k->∃g,A2=some ⟨g,0,none⟩):=by
  rcases h.o2.2 with ⟨a,b⟩ | ⟨g,cap,cur,a,_⟩
  ·exact ⟨none,0,by rw [a,b],fun q=>by omega⟩
  ·exact ⟨_,cap,a,fun _=>⟨g,rfl⟩⟩
 exact ⟨A1,c1,A2,c2,e1,e2,fun q=>by
  obtain ⟨g1,h1⟩:=q1 q;obtain ⟨g2,h2⟩:=q2 q;exact ⟨g1,g2,h1,h2⟩⟩
def FrV (w w':World) (L:List Nd) (e:Ending):Prop :=
 (∃k,k<L.length/\(∀j,j<k->er L j=0)/\er L k≠0/\e=.returned (.tuple #[.slice none 0 0,.slice none 0 0,.int .i64 k,.int .i64 (er L k)])) ∨
 ((∀j,j<L.length->er L j=0)/\∃v1 v2,e=.returned (.tuple #[v1,v2,.int .i64 0,.int .i64 0])/\AtF L w w' L.length v1 v2)
theorem FrV.bad {w w':World} {L:List Nd} {k:Nat} {c:Int} (hk:k<L.length) (h:∀j,j<k->er L j=0) (he:er L k=c) (hc:c≠0):FrV w w' L (.returned (.tuple #[.slice none 0 0,.slice none 0 0,.int .i64 k,.int .i64 c])) :=
 .inl ⟨k,hk,h,by rw [he];exact hc,by rw [he]⟩
structure AtG (L:List Nd) (w wr:World) (k:Nat) (v1 v2:Value) (B:Nat) (n:Nd) (gp op:Nat):Prop where
 f:AtF L w wr k v1 v2
 x:NB wr B 0 n
 p:NdL wr gp op L
 lp:gp<w.heap.size
theorem AtG.below {L:List Nd} {w wr w2:World} {k:Nat} {v1 v2:Value} {B:Nat} {n:Nd} {gp op:Nat} (h:AtG L w wr k v1 v2 B n gp op) (hb:Below wr.heap.size wr w2):AtG L w w2 k v1 v2 B n gp op :=
 ⟨h.f.below hb,h.x.below hb,h.p.same (hb.block _ (nM h.lp h.f.b.size)),h.lp⟩
theorem zmm (L:List Nd) (Ap:Option Addr) (cp:Nat) (hL:L.length<=2048) (hT:∀n∈L,n.tx.size<=140737488355328) (w:World) (hp:RdN w Ap L) :
  Calls Tryz.prog 84 #[.slice Ap L.length cp] w fun e w'=>FrV w w' L e/\Below w.heap.size w w':=by
 have HP:Hid (RdN w Ap L):=hp;have HA:Hid (AtF L w w 0 (.slice none 0 0) (.slice none 0 0)):=⟨World.ownsRow_nil _ _ _ _,World.ownsRow_nil _ _ _ _,fun g q=>by simp [Value.ownBlock] at q,bR _ _,fun j q=>by omega⟩;have HG:Hid (∀k,k<L.length->∃n,L[k]?=some n/\n.tx.size<=140737488355328/\L≠[]):=fun k hk=>⟨_,gE hk,hT _ (List.getElem_mem hk),by rintro rfl;simp at hk⟩
 clear hT hp;obtain ⟨i0,hinf,hz0,hz1,hz2⟩:=info_parts Tryz.info3;go_enter Tryz.func84,Tryz.ntmps84;go_wp2_with fail;go_loopw [6,7,8] (fun v1 v2 t wr=>∃k:Nat,k<=L.length/\t=.int .i64 k/\Hid (AtF L w wr k v1 v2)) (fun _ _ t _=>L.length - (intOf t).toNat)
 case atStart=>exact ⟨0,by omega,by go_num,HA⟩
 case round =>
  obtain ⟨k,hk,rfl,HW⟩:=hrel;clear HA;by_cases hlt:k<L.length
  ·obtain ⟨n,hn,htx,hne⟩:=HG k hlt
   obtain ⟨gp,op,rfl,lp,cl⟩:=HP hne;have HNn:Hid (L[k]?=some n):=hn;have HFd:Hid (∀w,Cl 114 #[ndG n] w (rB w (.bool (fdF n)))):=fun w=>fieldR n htx w
   have HAr:Hid (∀w,Cl 113 #[.int .i64 n.op] w (rU w (.int .i64 (ar n.op)))):=fun w=>zhZ n.op w
   obtain ⟨c0,c1,c2,c3,c4,c5,c6⟩:=(cl.same (HW.b.block gp lp)) k n hn;have z0:(0:Int)<=(k:Int):=by omega
   have z1:(k:Int)<(L.length:Int):=by omega
   have HW2:Hid (AtG L w (wr.alloc (ndO n)) k _ _ wr.heap.size n gp op):=⟨HW.below (zaa wr (ndO n)),zi5 wr n,(cl.same (HW.b.block gp lp)).same ((zaa wr (ndO n)).block gp (nM lp HW.b.size)),lp⟩;have HEr:Hid (er L k=if alE n≠0 then alE n else if (run L k).length<arN n.op then 42 else if 60<(pt L k).2.2 then 4 else 0):=zi3 hn;clear hn hne cl HG HW HP;by_cases ha:ar n.op<0
   ·have HE:=(show Hid (er L k=40) from by
     show er L k=_
     have:alE n=40:=by unfold alE;rw [iP ha]
     rw [HEr.out,this];rfl)
    clear HEr HFd HNn;go_wp2_with fail;refine (HAr _).mono ?_;rintro e w2 ⟨rfl,rfl⟩;clear HAr c0 c1 c2 c3 c4 c5 c6;have za:decide (ar n.op<0)=true:=decide_eq_true ha;clear ha;generalize ar n.op=aa at *;go_wp2_with fail;refine bodyPost_ret (v:=.tuple #[.slice none 0 0,.slice none 0 0,.int .i64 k,.int .i64 40]) (by simp [results,Tryz.results84,go_sem]) rfl ⟨FrV.bad hlt HW2.f.e HE (by decide),HW2.f.b⟩
   ·have za:decide (ar n.op<0)=false:=dF ha
    cases hf:fdF n with
    | false =>
     have HE:=(show Hid (er L k=41) from by
      show er L k=_
      have:alE n=41:=by unfold alE;rw [iN ha,hf];rfl
      rw [HEr.out,this];rfl)
     clear HEr HNn ha;go_wp2_with fail;refine (HAr _).mono ?_;rintro e w2 ⟨rfl,rfl⟩;clear HAr c0 c1 c2 c3 c4 c5 c6;generalize ar n.op=aa at *;go_wp2_with fail;refine (HFd _).mono ?_;rintro e w3 ⟨rfl,b3⟩;have HW3:=hO (HW2.below b3);clear HW2 HFd b3;rw [hf];go_wp2_with fail;refine bodyPost_ret (v:=.tuple #[.slice none 0 0,.slice none 0 0,.int .i64 k,.int .i64 41]) (by simp [results,Tryz.results84,go_sem]) rfl ⟨FrV.bad hlt HW3.f.e HE (by decide),HW3.f.b⟩
    | true =>
     have hal:alE n=0:=by unfold alE;rw [iN ha,hf];rfl
     have HE2:Hid (er L k=if (run L k).length<arN n.op then 42 else if 60<(pt L k).2.2 then 4 else 0):=by show er L k=_;rw [HEr.out,iN (by rw [hal];simp)]
     have hrn:=zmI hal;have ha2:=ze3 n.op;clear HEr ha;rw [<-hrn] at HAr za;go_wp2_with fail;refine (HAr _).mono ?_;rintro e w2 ⟨rfl,rfl⟩;clear HAr c0 c1 c2 c3 c4 c5 c6 hrn hal;have HOp:Hid (zdB L k=n.op):=zhY HNn.out;generalize haa:arN n.op=aa at *;have HAa:Hid (arN n.op=aa):=haa;clear haa;go_wp2_with fail;refine (HFd _).mono ?_;rintro e w3 ⟨rfl,b3⟩;have HW3:=hO (HW2.below b3);clear HW2 HFd b3;rw [hf];clear hf;obtain ⟨A1,k1,A2,k2,rfl,rfl,hfo⟩:=HW3.f.form;have HFo:Hid (0<k->∃g1 g2,A1=some ⟨g1,0,none⟩/\A2=some ⟨g2,0,none⟩):=hfo;have HCh:Hid (Chn L k (run L k)):=zgF L k hk HW3.f.e;have HPo:Hid (∀x∈run L k,1<=x.2.2/\x.2.2<=60/\x.2.1<k/\x=pt L x.2.1):=fun x hx=>⟨zoJ hk HW3.f.e x hx,(zfV hk HW3.f.e x hx).2.2.1,(zfV hk HW3.f.e x hx).2.1,(zfV hk HW3.f.e x hx).2.2.2⟩
     have HHb:Hid (∀i,hI L n.op aa (run L k) i<=60):=hI_bd L n.op aa (run L k) (fun x hx=>(HPo x hx).2.1);clear hfo;generalize hBz:wr.heap.size=Bz at *;clear hBz;go_wp2_with fail;go_loopw [11,12,13] (fun t u v wq=>∃i c:Nat,c+i=aa/\t=.int .i64 (atI k (run L k) i)/\u=.int .i64 (hI L n.op aa (run L k) i)/\v=.int .i64 c/\Hid (i<=(run L k).length)/\Hid (AtG L w wq k (.slice A1 k k1) (.slice A2 k k2) Bz n gp op)) (fun _ _ v _=>(intOf v).toNat)
     case atStart=>exact ⟨0,aa,by omega,rfl,rfl,rfl,Nat.zero_le _,HW3⟩
     case round =>
      obtain ⟨i,c,hc,rfl,rfl,rfl,HI,HW4⟩:=hrel;clear HW3;by_cases hc0:0<c
      ·have zc:(0:Int)<(c:Int):=by omega
       cases hst:(run L k).drop i with
       | nil =>
        have hat:atI k (run L k) i=0:=by
         have h:=zkF L k (run L k) HCh i HI.out;rw [hst] at h;exact h
        have hlen:(run L k).length<aa:=by
         have:=List.drop_eq_nil_iff.1 hst;omega
        have HE:Hid (er L k=42):=by show er L k=_;rw [HE2.out,iP hlen]
        have zt:(((atI k (run L k) i:Nat):Int)==0)=true:=by rw [hat];rfl
        clear hst hat hlen HE2 HCh HPo HHb HFo HAa HOp HNn HI;generalize atI k (run L k) i=ai at *;generalize hI L n.op aa (run L k) i=hi at *;go_wp2_with fail;refine bodyPost_ret (v:=.tuple #[.slice none 0 0,.slice none 0 0,.int .i64 k,.int .i64 42]) (by simp [results,Tryz.results84,go_sem]) rfl ⟨FrV.bad hlt HW4.f.e HE (by decide),HW4.f.b⟩
       | cons x r =>
        have hch:=zkF L k (run L k) HCh i HI.out;rw [hst] at hch;obtain ⟨q1,q2,q3,_⟩:=hch;have hi2:i<(run L k).length:=by
         have:=congrArg List.length hst;rw [List.length_drop,List.length_cons] at this;omega
        have hxi:(run L k)[i]?=some x:=by
         have:=List.getElem?_drop (xs:=run L k) (i:=i) (j:=0);rw [hst] at this
         simpa using this.symm
        obtain ⟨p1,p2,p3,hpx⟩:=HPo x (List.mem_of_getElem? hxi);have hk0:0<k:=by omega
        obtain ⟨g1,g2,rfl,rfl⟩:=HFo hk0;have ha1:atI k (run L k) (i+1)=x.1:=by rw [atI,hxi]
        have hh1:hI L n.op aa (run L k) (i+1)=max (hI L n.op aa (run L k) i) (if i+1=aa/\aa=2/\zdB L x.2.1=n.op then x.2.2 - 1 else x.2.2):=by rw [hI,hxi]
        have hbh:=HHb i;have e1:=HW4.f.o1.cells (g:=g1) rfl x.2.1 _ (zdS p3);have e2:=HW4.f.o2.cells (g:=g2) rfl x.2.1 _ (zoK p3);rw [Addr.add_lit,Nat.zero_add,<-q2] at e1 e2;have hy:L[x.2.1]?=some L[x.2.1]:=gE (by omega);have e3:=(HW4.p x.2.1 _ hy).c0;rw [<-zhY hy] at e3;have e4:=HW4.x.c0;have zt:(((atI k (run L k) i:Nat):Int)==0)=false:=bF (by omega);have hsub:((atI k (run L k) i:Nat):Int) - 1=(x.2.1:Int):=by omega
        have zx:(0:Int)<=(x.2.1:Int):=by omega
        have zk:(x.2.1:Int)<(k:Int):=by omega
        have zl:(x.2.1:Int)<(L.length:Int):=by omega
        have HI2:Hid (i+1<=(run L k).length):=hi2;have HA1:=hO ha1;have HH1:=hO hh1;clear hst q1 q2 q3 hxi hy ha1 hh1 HE2 HCh HPo HHb HFo HAa HOp HNn HI hi2;generalize hat:atI k (run L k) i=ai at *;generalize hhi:hI L n.op aa (run L k) i=hi at *;clear hat hhi;obtain ⟨x1,x2,x3⟩:=x;simp only at p1 p2 p3 e1 e2 e3 hsub zx zk zl HA1 HH1 hpx;generalize hox:zdB L x2=ox at *;clear hox;have HX1:Hid ((pt L x2).1=x1):=by show (pt L x2).1=x1;rw [<-hpx]
        clear hpx e1;by_cases hg:c=1/\aa=2
        ·have t1:((c:Int)==1)=true:=beq_iff_eq.2 (by omega)
         have t2:((aa:Int)==2)=true:=beq_iff_eq.2 (by omega);by_cases ho:ox=n.op
         ·have HZ:Hid (hI L n.op aa (run L k) (i+1)=max hi (x3 - 1)):=by show hI L n.op aa (run L k) (i+1)=_;rw [HH1.out,iP ⟨by omega,hg.2,ho⟩]
          have t3:(ox==n.op)=true:=beq_iff_eq.2 ho;have hx3:((x3:Int) - 1)=((x3 - 1:Nat):Int):=by omega
          clear ho hg HH1;go_wp2_with fail;go_quiet (fail)
          have HW5:Hid (AtG L w (wr.drewN nq) k (.slice (some ⟨g1,0,none⟩) k k1) (.slice (some ⟨g2,0,none⟩) k k2) Bz n gp op):=HW4.below (below_drewN (bR _ _) _);clear HW4 e2 e3 e4;have e1:=HW5.f.o1.cells (g:=g1) rfl x2 _ (zdS p3);rw [Addr.add_lit,Nat.zero_add,HX1.out] at e1;generalize wr.drewN nq=w5 at *;go_wp2_with fail;go_roundw
          case rel =>
           refine ⟨i+1,c - 1,by omega,by rw [HA1.out],?_,by rw [show ((c:Int) - 1)=((c - 1:Nat):Int) from by omega],HI2,HW5⟩;rw [HZ.out];first | (rw [<-max_i];done) | rw [<-zer]
          case measure=>simp [intOf];omega
         ·have HZ:Hid (hI L n.op aa (run L k) (i+1)=max hi (x3)):=by show hI L n.op aa (run L k) (i+1)=_;rw [HH1.out,iN (fun q=>ho q.2.2)]
          have t3:(ox==n.op)=false:=bF ho;clear ho hg HH1;go_wp2_with fail;go_quiet (fail)
          have HW5:Hid (AtG L w (wr.drewN nq) k (.slice (some ⟨g1,0,none⟩) k k1) (.slice (some ⟨g2,0,none⟩) k k2) Bz n gp op):=HW4.below (below_drewN (bR _ _) _);clear HW4 e2 e3 e4;have e1:=HW5.f.o1.cells (g:=g1) rfl x2 _ (zdS p3);rw [Addr.add_lit,Nat.zero_add,HX1.out] at e1;generalize wr.drewN nq=w5 at *;go_wp2_with fail;go_roundw
          case rel =>
           refine ⟨i+1,c - 1,by omega,by rw [HA1.out],?_,by rw [show ((c:Int) - 1)=((c - 1:Nat):Int) from by omega],HI2,HW5⟩;rw [HZ.out];first | (rw [<-max_i];done) | rw [<-zer]
          case measure=>simp [intOf];omega
        ·by_cases hc1:c=1
         ·have t1:((c:Int)==1)=true:=beq_iff_eq.2 (by omega)
          have t2:((aa:Int)==2)=false:=bF (fun q=>hg ⟨hc1,by omega⟩);have HZ:Hid (hI L n.op aa (run L k) (i+1)=max hi (x3)):=by show hI L n.op aa (run L k) (i+1)=_;rw [HH1.out,iN (fun q=>hg ⟨hc1,q.2.1⟩)]
          clear hg HH1 hc1;go_wp2_with fail;go_quiet (fail)
          have HW5:Hid (AtG L w (wr.drewN nq) k (.slice (some ⟨g1,0,none⟩) k k1) (.slice (some ⟨g2,0,none⟩) k k2) Bz n gp op):=HW4.below (below_drewN (bR _ _) _);clear HW4 e2 e3 e4;have e1:=HW5.f.o1.cells (g:=g1) rfl x2 _ (zdS p3);rw [Addr.add_lit,Nat.zero_add,HX1.out] at e1;generalize wr.drewN nq=w5 at *;go_wp2_with fail;go_roundw
          case rel =>
           refine ⟨i+1,c - 1,by omega,by rw [HA1.out],?_,by rw [show ((c:Int) - 1)=((c - 1:Nat):Int) from by omega],HI2,HW5⟩;rw [HZ.out];first | (rw [<-max_i];done) | rw [<-zer]
          case measure=>simp [intOf];omega
         ·have t1:((c:Int)==1)=false:=bF (by omega)
          have HZ:Hid (hI L n.op aa (run L k) (i+1)=max hi (x3)):=by show hI L n.op aa (run L k) (i+1)=_;rw [HH1.out,iN (fun q=>hc1 (by have:=q.1;omega))]
          clear hg HH1 hc1;go_wp2_with fail;go_quiet (fail)
          have HW5:Hid (AtG L w (wr.drewN nq) k (.slice (some ⟨g1,0,none⟩) k k1) (.slice (some ⟨g2,0,none⟩) k k2) Bz n gp op):=HW4.below (below_drewN (bR _ _) _);clear HW4 e2 e3 e4;have e1:=HW5.f.o1.cells (g:=g1) rfl x2 _ (zdS p3);rw [Addr.add_lit,Nat.zero_add,HX1.out] at e1;generalize wr.drewN nq=w5 at *;go_wp2_with fail;go_roundw
          case rel =>
           refine ⟨i+1,c - 1,by omega,by rw [HA1.out],?_,by rw [show ((c:Int) - 1)=((c - 1:Nat):Int) from by omega],HI2,HW5⟩;rw [HZ.out];first | (rw [<-max_i];done) | rw [<-zer]
          case measure=>simp [intOf];omega
      ·obtain rfl:c=0:=by omega
       obtain rfl:i=aa:=by omega
       have HPt:=(show Hid (pt L k=(atI k (run L k) i,k,hI L n.op i (run L k) i+1)) from by
        show pt L k=_
        have h:=pt_at L k n.op (run L k) (by rw [HAa.out];exact HI.out) (fun x hx=>(HPo x hx).1);rw [HAa.out] at h;rw [<-h];unfold pt;rw [HOp.out])
       have HE3:=(show Hid (er L k=if 60<hI L n.op i (run L k) i+1 then 4 else 0) from by
        show er L k=_
        rw [HE2.out,iN (by have:=HI.out;omega),HPt.out])
       have hbh:=HHb i;have hab:atI k (run L k) i<=k:=by
        have h:=zkF L k (run L k) HCh i HI.out
        cases hd:(run L k).drop i with
        | nil=>rw [hd] at h;have e:atI k (run L k) i=0:=h;omega
        | cons y r=>rw [hd] at h;have:=(HPo y (List.mem_of_mem_drop (by rw [hd];simp))).2.2.1;have:=h.1;omega
       clear HE2 HCh HPo HHb HFo HAa HOp HNn HI;generalize atI k (run L k) i=ai at *;generalize hI L n.op i (run L k) i=hi at *;by_cases hd:60<hi+1
       ·have HE:Hid (er L k=4):=by show er L k=_;rw [HE3.out,iP hd]
        have zd:(60:Int)<(hi:Int)+1:=by omega
        clear HE3 HPt hd;go_wp2_with fail;refine bodyPost_ret (v:=.tuple #[.slice none 0 0,.slice none 0 0,.int .i64 k,.int .i64 4]) (by simp [results,Tryz.results84,go_sem]) rfl ⟨FrV.bad hlt HW4.f.e HE (by decide),HW4.f.b⟩
       ·have HE:=(show Hid (∀j,j<k+1->er L j=0) from fun j hj=>by
         by_cases q:j<k
         ·exact HW4.f.e j q
         ·obtain rfl:j=k:=by omega
          rw [HE3.out,iN hd])
        have zd:¬(60:Int)<(hi:Int)+1:=by omega
        clear HE3 hd;have HF:Hid (AtF L w wr k (.slice A1 k k1) (.slice A2 k k2)):=HW4.f;have hO1:=HW4.f.o1;have hbs:=HW4.f.b.size;clear HW4;go_wp2_with (at_builtin;refine wpList_append_lies _ rfl _ _ 66 rfl w.heap.size 3 i0 (.int .i64 0) 1 8 Tryz.underlying66 hinf hz0 hz1 hz2 rfl (by decide) _ _ _ rfl (hO1.alloc _) ⟨wr.heap.size,0,none⟩ 1 1 [.int .i64 ai] rfl rfl (cell_one_new _ _ _) ?c2 (by decide) ?c3 ?c4 ?c5 (wr.heap.size+1) (by simp) ?_)
        case c2=>first | rfl | (intro u hu;simp at hu;subst hu;rfl)
        case c3=>unfold maxLen;omega
        case c4=>omega
        case c5=>first | omega | (simp;omega)
        intro g cap w6 hown1 hgrow1 hat1 hlt1;have hO2:w6.ownsRow w.heap.size 3 1 (.slice A2 k k2) k (hic L k):=(HF.o2.alloc _).kept hgrow1 (by
         cases hv:(Value.slice A2 k k2).ownBlock with
         | none=>exact .inl rfl
         | some g2=>exact .inr (fun e=>HF.ne g2 e.symm hv))
        have HB6:Hid (Below w.heap.size w w6):=(HF.b.alloc hbs _).grown hgrow1 (by simp;omega) (fun j e=>(HF.o1.lt j e).1);have hb6:=HB6.size;have hs6:wr.heap.size+1<=w6.heap.size:=by have:=hgrow1.size;(try unfold rB at this);rw [sA] at this;exact this
        have HO1:Hid (w6.ownsRow w.heap.size 3 1 (.slice (some ⟨g,0,none⟩) (k+1) cap) (k+1) (bgc L (k+1))):=by rw [zmk,HPt.out];exact hown1
        have HX1:=(show Hid (∀j,(Value.slice A2 k k2).ownBlock=some j->j≠g/\j<w6.heap.size) from fun j hj=>by
         have hlt:=(HF.o2.lt j hj).2;refine ⟨?_,by omega⟩
         rcases hat1 with q | q
         ·rintro rfl
          exact HF.ne _ q hj
         ·omega)
        have HG6:Hid (g<w6.heap.size):=hlt1;clear hown1 hgrow1 hat1 hlt1 hO1 HF;go_wp2_with (at_builtin;refine wpList_append_lies _ rfl _ _ 66 rfl w.heap.size 3 i0 (.int .i64 0) 1 8 Tryz.underlying66 hinf hz0 hz1 hz2 rfl (by decide) _ _ _ rfl (hO2.alloc _) ⟨w6.heap.size,0,none⟩ 1 1 [.int .i64 ((hi:Int)+1)] rfl rfl (cell_one_new _ _ _) ?c2 (by decide) ?c3 ?c4 ?c5 (w6.heap.size+1) (by simp) ?_)
        case c2=>first | rfl | (intro u hu;simp at hu;subst hu;rfl)
        case c3=>unfold maxLen;omega
        case c4=>omega
        case c5=>first | omega | (simp;omega)
        intro g' cap' w7 hown2 hgrow2 hat2 hlt2;have HW7:=(show Hid (AtF L w w7 (k+1) (.slice (some ⟨g,0,none⟩) (k+1) cap) (.slice (some ⟨g',0,none⟩) (k+1) cap')) from by
         refine ⟨(HO1.alloc _).kept hgrow2 (.inr ?_),?_,?_,(HB6.alloc hb6 _).grown hgrow2 (by simp;omega) (fun j e=>(hO2.lt j e).1),HE.out⟩
         ·intro e
          exact (HX1 g e.symm).1 rfl
         ·rw [zml,HPt.out]
          have hcst:(((hi+1:Nat):Nat):Int)=(hi:Int)+1:=by omega
          show w7.ownsRow _ _ _ _ _ (hic L k++[.int .i64 ((hi+1:Nat):Int)])
          rw [hcst];exact hown2
         ·intro j e1 e2
          have q1:g=j:=Option.some.inj e1;have q2:g'=j:=Option.some.inj e2
          rcases hat2 with q | q
          ·exact (HX1 g' q).1 (by rw [q1,q2])
          ·have:=HG6.out;omega)
        clear hown2 hgrow2 hat2 hlt2 hO2 HX1 HG6 HO1 HB6 HPt HE;go_wp2_with fail;go_roundw
        case rel=>exact ⟨k+1,by omega,by go_num,HW7⟩
        case measure=>simp [intOf];omega
  ·obtain rfl:k=L.length:=by omega
   clear HG HP;go_wp2_with fail;refine bodyPost_ret (v:=.tuple #[u6,u7,.int .i64 0,.int .i64 0]) (by simp [results,Tryz.results84,go_sem]) rfl ⟨.inr ⟨HW.e,_,_,rfl,HW.out⟩,HW.b⟩
theorem zoL {L:List Nd} {m:Nat} (hm:L.length=m+1) (h:∀j,j<L.length->er L j=0):(run L L.length).length=1↔(pt L m).1=0:=by
 have hc:=zgF L L.length (nL _) h;rw [hm] at hc ⊢;rw [zeb] at hc ⊢;have h2:=hc.2.2.2
 cases hd:(run L m).drop (arN (zdB L m)) with
 | nil=>rw [hd] at h2;exact ⟨fun _=>h2,fun _=>rfl⟩
 | cons x r =>
  rw [hd] at h2;have:=h2.1
  constructor
  ·intro e;simp at e
  ·intro e;omega
theorem zis (L:List Nd) (Ap:Option Addr) (cp:Nat) (hL:L.length<=140737488355328) (hT:∀n∈L,n.tx.size<=140737488355328) (w:World) (hp:RdN w Ap L) :
  Calls Tryz.prog 52 #[.slice Ap L.length cp] w (rB w (.tuple #[.int .i64 (ck L).1,.int .i64 (ck L).2])):=by
 by_cases hlong:2048<L.length
 ·have HE:Hid (ck L=(0,2)):=zi2 hlong
  have z:(2048:Int)<(L.length:Int):=by omega
  clear hT hp;go_enter Tryz.func52,Tryz.ntmps52;go_wp2_with fail;go_ret2
  exact ⟨by rw [HE.out];rfl,bR _ _⟩
 have z:¬(2048:Int)<(L.length:Int):=by omega
 have HF:Hid (∀_:Unit,Cl 84 #[.slice Ap L.length cp] w fun e w'=>FrV w w' L e/\Below w.heap.size w w'):=fun _=>zmm L Ap cp (by omega) hT w hp
 clear hT hp;have HN:Hid (¬2048<L.length):=hlong;clear hlong;go_enter Tryz.func52,Tryz.ntmps52;go_wp2_with fail;refine (HF ()).mono ?_;rintro e w2 ⟨hv,b2⟩;have HB:Hid (Below w.heap.size w w2):=b2;clear HF b2
 rcases hv with ⟨k,hk,h1,h2,rfl⟩ | ⟨h1,v1,v2,rfl,h2⟩
 ·have HE:Hid (ck L=(k,er L k)):=zhn HN hk h1 h2
  have t1:(er L k != 0)=true:=by rw [bne,bF h2];rfl
  clear h1 h2 HN;generalize er L k=ek at *;go_wp2_with fail;go_ret2
  exact ⟨by rw [HE.out];rfl,HB.out⟩
 ·have HE:Hid (ck L=if (run L L.length).length=1 then (0,0) else (L.length,42)):=zmH HN h1
  obtain ⟨A1,c1,A2,c2,rfl,rfl,hf⟩:=h2.form;by_cases h0:L.length=0
  ·have HE2:=(show Hid (ck L=(L.length,42)) from by
    show ck L=_
    rw [HE.out,iN];rw [List.eq_nil_of_length_eq_zero h0];simp [run])
   have t0:((L.length:Int)==0)=true:=beq_iff_eq.2 (by omega);clear h1 h2 hf h0 HE HN;go_wp2_with fail;go_ret2
   exact ⟨by rw [HE2.out];rfl,HB.out⟩
  ·obtain ⟨m,hm⟩:∃m,L.length=m+1:=⟨L.length - 1,by omega⟩
   obtain ⟨g1,g2,rfl,rfl⟩:=hf (by omega);have hone:=zoL hm h1;have e1:=h2.o1.cells (g:=g1) rfl m _ (zdS (by omega));rw [Addr.add_lit,Nat.zero_add] at e1;have t0:((L.length:Int)==0)=false:=bF (by omega);have hs:(L.length:Int) - 1=(m:Int):=by omega
   have zm:(0:Int)<=(m:Int):=by omega
   have zl:(m:Int)<(L.length:Int):=by omega
   by_cases hp0:(pt L m).1=0
   ·have HE2:Hid (ck L=(0,0)):=by show ck L=_;rw [HE.out,iP (hone.2 hp0)]
    have t2:(((pt L m).1:Int) != 0)=false:=by rw [hp0];rfl
    clear h1 h2 hf h0 HE HN hm hone hp0;generalize (pt L m).1=q at *;go_wp2_with fail;go_ret2
    exact ⟨by rw [HE2.out];rfl,HB.out⟩
   ·have HE2:Hid (ck L=(L.length,42)):=by show ck L=_;rw [HE.out,iN (fun q=>hp0 (hone.1 q))]
    have t2:(((pt L m).1:Int) != 0)=true:=by rw [bne,bF (by omega)];rfl
    clear h1 h2 hf h0 HE HN hm hone hp0;generalize (pt L m).1=q at *;go_wp2_with fail;go_ret2
    exact ⟨by rw [HE2.out];rfl,HB.out⟩
theorem zhM {W:World} {B n:Nat} {v:Value} {L:List Nd} (h:W.ownsRow B 51 7 v n (ndc L)) (hn:n=L.length):∃A c,v=.slice A L.length c/\RdN W A L:=by
 subst hn;have hc:=h
 rcases h.2 with ⟨rfl,h0⟩ | ⟨g,cap,cur,rfl,_⟩
 ·exact ⟨none,0,by rw [h0],fun hl=>absurd (List.eq_nil_of_length_eq_zero h0) hl⟩
 ·have hc2:W.ownsRow B 51 7 (.slice (some ⟨g,0,none⟩) L.length cap) L.length (ndc L++[]):=by rw [List.append_nil];exact hc
  exact ⟨_,cap,rfl,fun _=>⟨g,0,rfl,(hc.lt g rfl).2,zi9 hc2⟩⟩
end Go.Proofs.YtkihfkcmcdiajaaGreatDoor.T
namespace Go.Proofs.YtkihfkcmcdiajaaGreatDoor.N
open Go.RowKit
def plV (E:PE) (z:Nat) (x:Rl×Value):List Value:=[.int .i64 (plA E z x.1.1),.string x.1.2.1,x.2]
def plc (E:PE) (z:Nat) (l:List (Rl×Value)):List Value:=l.flatMap (plV E z)
theorem zoM (E:PE) (z:Nat) (x:Rl×Value):plc E z [x]=plV E z x:=by unfold plc;rw [List.flatMap_cons,List.flatMap_nil,List.append_nil]
structure Bds (w0 W:World) (ov:List (Rl×Value)):Prop where
 e:∀x∈ov,W.ownsRow w0.heap.size 51 7 x.2 x.1.2.2.length (T.ndc x.1.2.2)
 ap:ov.Pairwise fun x y=>∀k,x.2.ownBlock=some k->y.2.ownBlock≠some k
theorem Bds.same {w0 W W':World} {ov:List (Rl×Value)} (h:Bds w0 W ov) (hk:∀x∈ov,∀k,x.2.ownBlock=some k->W'.heap[k]?=W.heap[k]?):Bds w0 W' ov:=⟨fun x hx=>zam (h.e x hx) (hk x hx),h.ap⟩
theorem Bds.push {w0 W:World} {ov:List (Rl×Value)} (h:Bds w0 W ov) (x:Rl×Value) (hx:W.ownsRow w0.heap.size 51 7 x.2 x.1.2.2.length (T.ndc x.1.2.2)) (hn:∀y∈ov,∀k,y.2.ownBlock=some k->x.2.ownBlock≠some k):Bds w0 W (ov++[x]) :=
 ⟨fun y hy=>by
  rcases List.mem_append.1 hy with q | q
  ·exact h.e y q
  ·rw [List.mem_singleton.1 q];exact hx,List.pairwise_append.2 ⟨h.ap,List.pairwise_singleton _ _,fun y hy u hu=>by rw [List.mem_singleton.1 hu];exact hn y hy⟩⟩
theorem PF_all (E:PE) (P:Nd->Prop) (h0:∀op,P (nd0 op)) (hs:∀i p,zgy E i=.inl p->P p.1) (hl:∀i p,zbu E i=.inl p->∀n∈p.1,P n) (hc:∀i p,zbu E i=.inr p->∀n∈p.2,P n):∀(f m i d a:Nat) (ns:List Nd),PF E f m i d=.inl (a,ns)->∀n∈ns,P n:=by
 have two:∀{x y:List Nd},(∀n∈x,P n)->(∀n∈y,P n)->∀n∈x++y,P n:=fun hx hy n hn=>(List.mem_append.1 hn).elim (hx n) (hy n)
 have one:∀op,∀n∈[nd0 op],P n:=fun op n hn=>by rw [List.mem_singleton.1 hn];exact h0 op
 have nil:∀n∈([]:List Nd),P n:=fun n hn=>by cases hn
 intro f
 induction f with
 | zero=>intro m i d a ns h;rw [PF] at h;cases h
 | succ f ih =>
  intro m i d a ns h;rw [PF] at h;by_cases m0:m=0
  ·rw [iP m0] at h
   obtain ⟨a1,n1,r1,h⟩:=zaY h;obtain ⟨n2,r2,e2⟩:=zbb h;dsimp only at e2;rw [e2];exact two (ih _ _ _ _ _ r1) (ih _ _ _ _ _ r2)
  rw [iN m0] at h;by_cases m1:m=1
  ·rw [iP m1] at h
   by_cases k7:kdA E i=7
   ·rw [iP k7] at h
    obtain ⟨a1,n1,r1,h⟩:=zaY h;obtain ⟨n2,r2,e2⟩:=zbb h;dsimp only at e2;rw [e2];exact two (two (ih _ _ _ _ _ r1) (one _)) (ih _ _ _ _ _ r2)
   ·rw [iN k7] at h
    cases h
    exact nil
  rw [iN m1] at h;by_cases m2:m=2
  ·rw [iP m2] at h
   obtain ⟨a1,n1,r1,h⟩:=zaY h;obtain ⟨n2,r2,e2⟩:=zbb h;dsimp only at e2;rw [e2];exact two (ih _ _ _ _ _ r1) (ih _ _ _ _ _ r2)
  rw [iN m2] at h;by_cases m3:m=3
  ·rw [iP m3] at h
   by_cases kb:bgn E i=true
   ·rw [iP kb] at h
    obtain ⟨a1,n1,r1,h⟩:=zaY h;obtain ⟨n2,r2,e2⟩:=zbb h;dsimp only at e2;rw [e2];exact two (two (ih _ _ _ _ _ r1) (one _)) (ih _ _ _ _ _ r2)
   ·rw [iN kb] at h
    cases h
    exact nil
  rw [iN m3] at h;by_cases m4:m=4
  ·rw [iP m4] at h
   by_cases kb:bgn E i=true
   ·rw [iP kb] at h
    by_cases k8:kdA E i=8∨kdA E i=9
    ·rw [iP k8] at h
     split at h
     ·cases h
     ·obtain ⟨a1,n1,r1,h⟩:=zaY h
      cases h
      exact two (ih _ _ _ _ _ r1) (one _)
    ·rw [iN k8] at h
     obtain ⟨a1,n1,r1,h⟩:=zaY h;obtain ⟨n2,r2,e2⟩:=zbb h;dsimp only at e2;rw [e2];exact two (ih _ _ _ _ _ r1) (ih _ _ _ _ _ r2)
   ·rw [iN kb] at h;cases h
  rw [iN m4] at h;by_cases m5:m=5
  ·rw [iP m5] at h
   cases hp:zbu E i with
   | inl p =>
    rw [hp] at h
    cases h
    exact hl i p hp
   | inr p =>
    rw [hp] at h;dsimp only at h
    split at h
    ·cases h
    ·obtain ⟨a1,n1,r1,h⟩:=zaY h
     split at h
     ·cases h
      exact two (ih _ _ _ _ _ r1) (hc i p hp)
     ·cases h
  rw [iN m5] at h
  cases hp:zgy E i with
  | inr q =>
   rw [hp] at h
   cases q with
   | none=>cases h;exact nil
   | some c=>cases h
  | inl p =>
   rw [hp] at h;dsimp only at h;obtain ⟨n2,r2,e2⟩:=zbb h;dsimp only at e2;rw [e2];exact two (fun n hn=>by rw [List.mem_singleton.1 hn];exact hs i p hp) (ih _ _ _ _ _ r2)
theorem zoN {E:PE} (hE:OkE E) (i:Nat):(tkA E i).tx.size<=65536:=by
 unfold tkA;by_cases h:i<E.l.length
 ·rw [gE h]
  exact hE.tx _ (List.getElem_mem h)
 ·rw [List.getElem?_eq_none (by omega)]
  exact Nat.zero_le _
theorem zhN (op:Int):(nd0 op).tx.size<=65536:=Nat.zero_le _
theorem rnP_tx (a b:Int):∀n∈rnP a b,n.tx.size<=65536:=fun n hn=>by
 unfold rnP at hn;rw [List.mem_map] at hn;obtain ⟨m,_,rfl⟩:=hn;exact Nat.zero_le _
theorem zoO {E:PE} (hE:OkE E) {i a:Nat} {ns:List Nd} (h:exN E i=.inl (a,ns)):∀n∈ns,n.tx.size<=65536:=by
 refine PF_all E (fun n=>n.tx.size<=65536) zhN ?_ ?_ ?_ _ _ _ _ _ _ h
 ·intro i p hp
  unfold zgy ziS at hp;have e0:(⟨#[]⟩:ByteArray).size<=65536:=Nat.zero_le _;have hu:=zoN hE (i+1)
  repeat (split at hp;· cases hp;first | exact zhN _ | exact e0)
  split at hp
  ·split at hp
   ·split at hp
    ·cases hp;exact hu
    ·cases hp
   ·split at hp
    ·split at hp
     ·cases hp
     ·cases hp;exact e0
    ·cases hp
  ·cases hp
 ·intro i p hp n hn
  have hu:=zoN hE i;unfold zbu at hp;rw [hE.rn] at hp;unfold zb2 at hp;have one:∀op,n∈[nd0 op]->n.tx.size<=65536:=fun op q=>by rw [List.mem_singleton.1 q];exact zhN op
  by_cases c0:(tkA E i).kd=2
  ·rw [iP c0] at hp
   cases hp
   dsimp only at hn
   split at hn
   ·exact one _ hn
   ·rw [List.mem_singleton.1 hn];exact hu
  rw [iN c0] at hp;by_cases c1:(tkA E i).kd=3∨(tkA E i).kd=28
  ·rw [iP c1] at hp
   cases hp
   rw [List.mem_singleton.1 hn];exact Nat.zero_le _
  rw [iN c1] at hp;by_cases c2:(tkA E i).kd=5
  ·rw [iP c2] at hp
   cases hp
   exact rnP_tx _ _ n hn
  rw [iN c2] at hp;by_cases c3:(tkA E i).kd=18
  ·rw [iP c3] at hp;cases hp;exact one _ hn
  rw [iN c3] at hp;by_cases c4:(tkA E i).kd=29
  ·rw [iP c4] at hp;cases hp;exact one _ hn
  rw [iN c4] at hp;by_cases c5:(tkA E i).kd=30
  ·rw [iP c5] at hp;cases hp;exact one _ hn
  rw [iN c5] at hp;by_cases c6:(tkA E i).kd=1
  ·rw [iP c6] at hp;cases hp;rw [List.mem_singleton.1 hn];exact hu
  rw [iN c6] at hp;by_cases c7:(tkA E i).kd=16
  ·rw [iP c7] at hp;cases hp
  rw [iN c7] at hp;by_cases c8:(tkA E i).kd=19
  ·rw [iP c8] at hp
   split at hp
   ·cases hp;exact one _ hn
   ·cases hp
  rw [iN c8] at hp
  split at hp
  ·cases hp
  ·split at hp <;> cases hp
 ·intro i p hp n hn
  have hu:=zoN hE i;unfold zbu zb2 at hp;have one:∀op,n∈[nd0 op]->n.tx.size<=65536:=fun op q=>by rw [List.mem_singleton.1 q];exact zhN op
  by_cases c0:(tkA E i).kd=2
  ·rw [iP c0] at hp;cases hp
  rw [iN c0] at hp;by_cases c1:(tkA E i).kd=3∨(tkA E i).kd=28
  ·rw [iP c1] at hp;cases hp
  rw [iN c1] at hp;by_cases c2:(tkA E i).kd=5
  ·rw [iP c2] at hp;cases hp
  rw [iN c2] at hp;by_cases c3:(tkA E i).kd=18
  ·rw [iP c3] at hp;cases hp
  rw [iN c3] at hp;by_cases c4:(tkA E i).kd=29
  ·rw [iP c4] at hp;cases hp
  rw [iN c4] at hp;by_cases c5:(tkA E i).kd=30
  ·rw [iP c5] at hp;cases hp
  rw [iN c5] at hp;by_cases c6:(tkA E i).kd=1
  ·rw [iP c6] at hp;cases hp
  rw [iN c6] at hp;by_cases c7:(tkA E i).kd=16
  ·rw [iP c7] at hp;cases hp;cases hn
  rw [iN c7] at hp;by_cases c8:(tkA E i).kd=19
  ·rw [iP c8] at hp
   split at hp
   ·cases hp
   ·cases hp;exact one _ hn
  rw [iN c8] at hp;by_cases c9:(tkA E i).kd=21
  ·rw [iP c9] at hp;cases hp;rw [List.mem_singleton.1 hn];exact hu
  rw [iN c9] at hp
  split at hp
  ·cases hp;exact one _ hn
  ·cases hp;exact one _ hn
theorem rlG_tx {E:PE} (hE:OkE E):∀(f i:Nat) (out rs:List Rl),(∀r∈out,∀n∈r.2.2,n.tx.size<=65536)->rlG (exN E) E f i out=.inl rs->∀r∈rs,∀n∈r.2.2,n.tx.size<=65536:=by
 intro f
 induction f with
 | zero=>intro i out rs h0 h;rw [rlG] at h;cases h;exact h0
 | succ f ih =>
  intro i out rs h0 h;rw [rlG] at h;by_cases hi:i<E.l.length
  ·rw [iP hi] at h
   by_cases hr:ruB E i=true
   ·rw [iP hr] at h
    cases he:exN E (i+2) with
    | inr p=>rw [he] at h;cases h
    | inl p =>
     rw [he] at h;refine ih _ _ _ (fun r hr2=>?_) h
     rcases List.mem_append.1 hr2 with q | q
     ·exact h0 r q
     ·rw [List.mem_singleton.1 q];exact zoO hE he
   ·rw [iN hr] at h;cases h
  ·rw [iN hi] at h;cases h;exact h0
theorem rdN_tx {E:PE} (hE:OkE E) {rs:List Rl} (h:rdN E=.inl rs):∀r∈rs,∀n∈r.2.2,n.tx.size<=65536:=by
 unfold rdN at h
 split at h
 ·exact rlG_tx hE _ _ _ _ (fun r hr=>by cases hr) h
 ·cases he:exN E 0 with
  | inr p=>rw [he] at h;cases h
  | inl p =>
   rw [he] at h;dsimp only at h
   split at h
   ·cases h
   ·cases h
    intro r hr;rw [List.mem_singleton.1 hr];exact zoO hE he
structure GX (W:World) (k:Nat) (a:Value):Prop where
 heap:W.heap[k]?=some (.cells #[a] 24 (0,0))
theorem GX.lt {W:World} {k:Nat} {a:Value} (h:GX W k a):k<W.heap.size:=(Array.getElem?_eq_some_iff.1 h.heap).1
theorem GX.same {W W':World} {k:Nat} {a:Value} (h:GX W k a) (hb:W'.heap[k]?=W.heap[k]?):GX W' k a:=⟨hb.trans h.heap⟩
theorem GX.below {W W':World} {k:Nat} {a:Value} (h:GX W k a) (hb:Below W.heap.size W W'):GX W' k a:=h.same (hb.block k h.lt)
theorem GX.cl {W:World} {k:Nat} {a:Value} (h:GX W k a):W.cell? ⟨k,0,none⟩=some a:=by
 rw [cell_of_row W k 0 _ 24 (0,0) h.heap];rfl
theorem GX.fz {W:World} {k:Nat} {a:Value} (h:GX W k a):W.frozen? ⟨k,0,none⟩=false:=frozen_of_row W k 0 _ 24 h.heap
theorem GX.set {W:World} {k:Nat} {a:Value} (h:GX W k a) (u:Value):GX (W.setCell ⟨k,0,none⟩ u) k u:=⟨by
 rw [heap_setCell_same _ k 0 _ 24 u h.heap];simp⟩
theorem GX.ne {W:World} {k B e s n:Nat} {u a:Value} {xs:List Value} (h:GX W k a) (ho:W.ownsRow B e s u n xs) (he:e≠24) {j:Nat} (hj:u.ownBlock=some j):j≠k:=fun q=>by
 subst q;obtain ⟨cs,hc⟩:=zdV ho hj;rw [h.heap] at hc
 injection hc with h4
 injection h4 with _ h5
 exact he h5.symm
theorem Tryz.info41:(Tryz.prog.info? 41).map (fun i=>(i.zero,i.size,i.bytes))=some (some (.agg #[.string ⟨#[]⟩,.slice none 0 0]),2,40):=by kernel_rfl
def grV (x:Rl×Value):List Value:=[.string x.1.2.1,x.2]
def grc (l:List (Rl×Value)):List Value:=l.flatMap grV
theorem zfc (a b:List (Rl×Value)):grc (a++b)=grc a++grc b:=List.flatMap_append
theorem zkM (x:Rl×Value):grc [x]=grV x:=by unfold grc;rw [List.flatMap_cons,List.flatMap_nil,List.append_nil]
theorem zoP (E:PE) (z:Nat) (L:List (Rl×Value)):∀(k j:Nat) (x:Rl×Value) (u:Value),L[k]?=some x->(plV E z x)[j]?=some u->(plc E z L)[k * 3+j]?=some u:=by
 induction L with
 | nil=>intro k j t u h;simp at h
 | cons a L ih =>
  intro k j t u h hj;have e:plc E z (a::L)=plV E z a++plc E z L:=by unfold plc;rw [List.flatMap_cons]
  have hl:(plV E z a).length=3:=rfl;rw [e]
  cases k with
  | zero =>
   have h:a=t:=by simpa using h
   subst h;rw [Nat.zero_mul,Nat.zero_add,List.getElem?_append_left (by have:=(List.getElem?_eq_some_iff.1 hj).1;omega)];exact hj
  | succ k =>
   rw [List.getElem?_append_right (by omega),hl,show (k+1) * 3+j - 3=k * 3+j from by omega];exact ih k j t u (by simpa using h) hj
theorem zm1 {E:PE} {z:Nat} {W:World} {B:Nat} {u:Value} {ov:List (Rl×Value)} (h:W.ownsRow B 62 3 u ov.length (plc E z ov)):∃A c,u=.slice A ov.length c/\∀(k:Nat) x,ov[k]?=some x->∃g,A=some ⟨g,0,none⟩/\g<W.heap.size/\W.cell? ⟨g,k * 3,none⟩=some (.int .i64 (plA E z x.1.1))/\W.cell? ⟨g,k * 3+1,none⟩=some (.string x.1.2.1)/\W.cell? ⟨g,k * 3+2,none⟩=some x.2:=by
 have hc:=h
 rcases h.2 with ⟨rfl,h0⟩ | ⟨g,cap,cur,rfl,_⟩
 ·refine ⟨none,0,by rw [h0],fun k x hk=>?_⟩
  rw [List.eq_nil_of_length_eq_zero h0] at hk;simp at hk
 ·refine ⟨_,cap,rfl,fun k x hk=>⟨g,rfl,(hc.lt g rfl).2,?_⟩⟩
  have key:∀j u,(plV E z x)[j]?=some u->W.cell? ⟨g,k * 3+j,none⟩=some u:=fun j u hj=>by
   have:=(hc.cells (g:=g) rfl) (k * 3+j) u (zoP E z ov k j x u hk hj)
   rwa [Addr.add_lit,Nat.zero_add] at this
  exact ⟨key 0 _ rfl,key 1 _ rfl,key 2 _ rfl⟩
def smN (ov:List (Rl×Value)) (k:Nat):Nat:=((ov.take k).map fun x=>x.1.2.2.length).sum
theorem zeh {ov:List (Rl×Value)} {k:Nat} {x:Rl×Value} (h:ov[k]?=some x):smN ov (k+1)=smN ov k+x.1.2.2.length:=by
 unfold smN;rw [List.take_add_one,h,List.map_append,List.sum_append];simp
structure AtO (w0 W wr:World) (gv:Value) (ov:List (Rl×Value)) (k:Nat):Prop where
 b:Below W.heap.size W wr
 r:GX wr W.heap.size (.slice none 0 0)
 x:GX wr (W.heap.size+1) gv
 o:wr.ownsRow W.heap.size 41 2 gv k (grc (ov.take k))
theorem AtO.later {w0 W wr W':World} {gv:Value} {ov:List (Rl×Value)} {k:Nat} (h:AtO w0 W wr gv ov k) (hb:Below wr.heap.size wr W'):AtO w0 W W' gv ov k :=
 ⟨h.b.trans (hb.mono h.b.size),h.r.below hb,h.x.below hb,zk0 h.o hb⟩
def GrV (_w0 W:World) (ov:List (Rl×Value)) (r:Option (Int×Int)) (e:Ending) (W':World):Prop:=match r with
 | some p=>e=pnc p.1 p.2/\Below W.heap.size W W'
 | none=>∃u,e=.returned (.agg #[u])/\W'.ownsRow W.heap.size 41 2 u ov.length (grc ov)/\Below W.heap.size W W'
theorem ret_gx {fn:Func} {R:Ending->World->Prop} {act:Act} {W:World} {k:Nat} {a:Value} (hF:fn.results=#[.cell 2 24]) (hd:act.defers=[]) (h2:act.tmps.getD 2 undef=.pointer (some ⟨k,0,none⟩)) (hT:GX W k a) (hR:R (.returned (.agg #[a])) W):bodyPost Tryz.prog fn R .ret act W:=by
 have c0:=hT.cl;refine bodyPost_ret (v:=.agg #[a]) ?_ hd hR;simp only [Array.getD_eq_getD_getElem?] at h2;simp [results,hF,go_sem,h2,c0]
theorem zeV {E:PE} {z:Nat} {w0 W:World} {u:Value} {ov:List (Rl×Value)} (ho:W.ownsRow w0.heap.size 62 3 u ov.length (plc E z ov)) (x:Rl×Value) (hx:ov[200]?=some x) (hn:ov.length<=65536):Calls Tryz.prog 24 #[u] W fun e W'=>e=pnc (plA E z x.1.1) 2/\Below W.heap.size W W':=by
 obtain ⟨A,c,rfl,hc⟩:=zm1 ho;obtain ⟨g,rfl,hlt,e0,e1,e2⟩:=hc 200 x hx;have hl:200<ov.length:=(List.getElem?_eq_some_iff.1 hx).1;have HU:Hid (∀a c W,Cl 45 #[.int .i64 a,.int .i64 c] W fun e W'=>e=pnc a c/\W'=W):=fun a c W=>zcV a c W
 have z1:(200:Int)<(ov.length:Int):=by omega
 have HB:Hid (Below W.heap.size W (W.alloc (.cells #[.slice none 0 0] 24))):=zaa _ _;have e0':=(HB.cell (p:=⟨g,200 * 3,none⟩) hlt).trans e0;clear ho hc hx e0 e1 e2 hl;generalize plA E z x.1.1=p0 at *;generalize ov.length=n at *;go_enter Tryz.func24,Tryz.ntmps24;go_wp2_with fail;generalize W.alloc (.cells #[.slice none 0 0] 24)=w1 at *;go_wp2_with fail;refine (HU _ _ _).mono ?_;rintro e w2 ⟨rfl,rfl⟩;exact zai rfl ⟨rfl,HB.out⟩
theorem zfN {E:PE} {z:Nat} {w0 W:World} {u:Value} {ov:List (Rl×Value)} (ho:W.ownsRow w0.heap.size 62 3 u ov.length (plc E z ov)) (hb:Bds w0 W ov) (htx:∀x∈ov,∀n∈x.1.2.2,n.tx.size<=65536) (hln:∀x∈ov,x.1.2.2.length<=2000000000000) (hn:ov.length<=200):Calls Tryz.prog 24 #[u] W fun e W'=>GrV w0 W ov (zdZ E z 0 (ov.map (·.1))) e W':=by
 obtain ⟨i0,hinf,hz0,hz1,hz2⟩:=info_parts Tryz.info41;obtain ⟨A,c,rfl,hc⟩:=zm1 ho;have HC:=hO hc;have HBd:=hO hb;have HTx:=hO htx;have HLn:=hO hln;have HG:Hid (∀k,k<ov.length->∃x,ov[k]?=some x/\x∈ov):=fun k hk=>⟨_,gE hk,List.getElem_mem hk⟩
 have HU:Hid (∀a c W,Cl 45 #[.int .i64 a,.int .i64 c] W fun e W'=>e=pnc a c/\W'=W):=fun a c W=>zcV a c W
 have HA:=(show Hid (AtO w0 W ((W.alloc (.cells #[.slice none 0 0] 24)).alloc (.cells #[.slice none 0 0] 24)) (.slice none 0 0) ov 0) from
  ⟨((bR _ _).alloc (nL _) _).alloc (by rw [sA];omega) _,(GX.mk (heap_alloc_new W _)).below (zaa _ _),⟨by have h:=heap_alloc_new (W.alloc (.cells #[.slice none 0 0] 24)) (.cells #[.slice none 0 0] 24);(try unfold rB at h);rw [sA] at h;exact h⟩,World.ownsRow_nil _ _ _ _⟩)
 have z2:¬(200:Int)<(ov.length:Int):=by omega
 have HZ0:Hid (zdZ E z 0 (ov.map (·.1))=zdZ E z (smN ov 0) ((ov.drop 0).map (·.1))):=rfl;generalize zdZ E z 0 (ov.map (·.1))=R0 at *;clear ho hb htx hln hc;go_enter Tryz.func24,Tryz.ntmps24;go_wp2_with fail;generalize (W.alloc (.cells #[.slice none 0 0] 24)).alloc (.cells #[.slice none 0 0] 24)=w1 at *;go_loopw [4,19] (fun s t wr=>∃(k:Nat) (gv:Value),k<=ov.length/\smN ov k<=2048/\s=.int .i64 (smN ov k:Nat)/\t=.int .i64 k/\Hid (AtO w0 W wr gv ov k)/\Hid (R0=zdZ E z (smN ov k) ((ov.drop k).map (·.1)))) (fun _ t _=>ov.length - (intOf t).toNat)
 case atStart=>exact ⟨0,_,Nat.zero_le _,Nat.zero_le _,rfl,rfl,HA,HZ0⟩
 case round =>
  obtain ⟨k,gv,hk,hsm,rfl,rfl,HW,HR⟩:=hrel;clear HA HZ0;by_cases hlt:k<ov.length
  ·obtain ⟨x,hx,hxm⟩:=HG k hlt
   obtain ⟨g,rfl,hglt,e0,e1,e2⟩:=HC k x hx;have hb1:=HBd.e x hxm;obtain ⟨A2,n2,hv2⟩:=zag hb1;have HSz:Hid (R0=if (T.ck x.1.2.2).2≠0 then some (plA E z x.1.1,(T.ck x.1.2.2).2) else if 2048<smN ov k+x.1.2.2.length then some (plA E z x.1.1,2) else zdZ E z (smN ov (k+1)) ((ov.drop (k+1)).map (·.1))):=by
    show R0=_
    rw [HR.out,List.drop_eq_getElem_cons hlt,show ov[k]=x from (List.getElem?_eq_some_iff.1 hx).2,List.map_cons,zdZ,zeh hx]
   have hsm1:=zeh hx;obtain ⟨m1,hm1⟩:∃m,m=smN ov (k+1):=⟨_,rfl⟩;rw [<-hm1] at hsm1 HSz;have HTk:Hid (grc (ov.take (k+1))=grc (ov.take k)++[.string x.1.2.1,x.2]):=by show grc _=_;rw [List.take_add_one,hx,zfc];show _++grc [x]=_;rw [zkM];rfl
   have HCk:Hid (∀W2,Below W.heap.size W W2->Cl 16 #[.slice A2 x.1.2.2.length n2] W2 (rB W2 (.tuple #[.int .i64 (T.ck x.1.2.2).1,.int .i64 (T.ck x.1.2.2).2]))):=fun W2 hW2=>by
    have hrow:=zam (W':=W2) hb1 fun j hj=>hW2.block j (hb1.lt j hj).2
    rw [hv2] at hrow;obtain ⟨A3,c3,e3,hrd⟩:=T.zhM hrow rfl
    cases e3
    exact T.zfZ _ _ _ (by have:=HLn x hxm;omega) (fun n hn=>by have:=HTx x hxm n hn;omega) W2 hrd
   have hlx:=HLn x hxm;rw [hv2] at e2 HTk;have d0:=(HW.b.cell (p:=⟨g,k * 3,none⟩) hglt).trans e0;have d1:=(HW.b.cell (p:=⟨g,k * 3+1,none⟩) hglt).trans e1;have d2:=(HW.b.cell (p:=⟨g,k * 3+2,none⟩) hglt).trans e2;clear e0 e1 e2 hx hxm hb1 hv2 HG HR HBd HTx HLn HC;generalize T.ck x.1.2.2=r at *;generalize x.1.2.2.length=nl at *;generalize x.1.2.1=nm at *;generalize plA E z x.1.1=p0 at *;have z0:(0:Int)<=(k:Int):=by omega
   have z1:(k:Int)<(ov.length:Int):=by omega
   have hsz:=HW.b.size;have HB1:Hid (AtO w0 W (wr.alloc (.cells #[.int .i64 p0,.string nm,.slice A2 nl n2] 62)) gv ov k/\PX (wr.alloc (.cells #[.int .i64 p0,.string nm,.slice A2 nl n2] 62)) wr.heap.size (.int .i64 p0) (.string nm) (.slice A2 nl n2)):=⟨HW.later (zaa _ _),⟨heap_alloc_new wr _⟩⟩;go_wp2_with fail;refine (HCk _ HB1.1.b).mono ?_;rintro e w2 ⟨rfl,hb2⟩;have HB2:Hid (AtO w0 W w2 gv ov k/\PX w2 wr.heap.size (.int .i64 p0) (.string nm) (.slice A2 nl n2)):=⟨HB1.1.later hb2,HB1.2.same (hb2.block _ HB1.2.lt)⟩;clear hb2 HB1 HCk d0 d1 d2 HW;obtain ⟨y0,y1,y2⟩:=HB2.2.cl;by_cases hr2:r.2=0
   ·have t1:(r.2 != 0)=false:=by rw [hr2];rfl
    have u1:IntKind.i64.wrap ((smN ov k:Nat)+(nl:Int))=(m1:Int):=by rw [wI];omega
    by_cases h48:2048<m1
    ·have HV:Hid (R0=some (p0,2)):=by show R0=_;rw [HSz.out,iN (by rw [hr2];simp),iP (by omega)]
     have t2:(2048:Int)<(m1:Int):=by omega
     clear HSz hr2 hsm1 hm1 HTk;generalize smN ov k=s0 at *;go_wp2_with fail;refine (HU _ _ _).mono ?_;rintro e w3 ⟨rfl,rfl⟩;exact zai (P:=Tryz.prog) (fn:=Tryz.f24) rfl (by show GrV w0 W ov R0 _ _;rw [HV.out];exact ⟨rfl,HB2.1.b⟩)
    ·have HV:Hid (R0=zdZ E z m1 ((ov.drop (k+1)).map (·.1))):=by show R0=_;rw [HSz.out,iN (by rw [hr2];simp),iN (by omega)]
     have t2:¬(2048:Int)<(m1:Int):=by omega
     have hO:=HB2.1.o;have q0:=HB2.1.x.cl;have qf:=HB2.1.x.fz;have HM:Hid (m1=smN ov (k+1)):=hm1;clear HSz hr2 hsm1 hm1;generalize hs0:smN ov k=s0 at *;clear hs0;have hs2:=HB2.1.b.size;go_wp2_with (at_builtin;refine wpList_append_lies _ rfl _ _ 22 rfl W.heap.size 41 i0 (.agg #[.string ⟨#[]⟩,.slice none 0 0]) 2 40 Tryz.underlying22 hinf hz0 hz1 hz2 rfl (by decide) _ _ _ rfl (hO.alloc _) ⟨w2.heap.size,0,none⟩ 1 1 [.string nm,.slice A2 nl n2] rfl rfl ?c1 ?c2 (by decide) ?c3 ?c4 ?c5 (w2.heap.size+1) (by simp) ?_)
     case c1=>exact World.news_of_block (cs:=#[.string nm,.slice A2 nl n2]) (t:=41) (fr:=(0,0)) (heap_alloc_new w2 _)
     case c2=>intro u hu;simp only [List.mem_cons,List.not_mem_nil,or_false] at hu;rcases hu with rfl | rfl <;> rfl
     case c3=>unfold maxLen;omega
     case c4=>omega
     case c5=>rw [sA];omega
     intro g3 cap w3 hown hgrow hat hlt3;have hA2:=HB2.1.later (zaa w2 (.cells #[.string nm,.slice A2 nl n2] 41));have hO2:=hO.alloc (.cells #[.string nm,.slice A2 nl n2] 41);have hx3:GX w3 (W.heap.size+1) gv:=hA2.x.same (hgrow.block _ hA2.x.lt (fun e=>hA2.x.ne hO2 (by decide) e.symm rfl));have hr3:GX w3 W.heap.size (.slice none 0 0):=hA2.r.same (hgrow.block _ hA2.r.lt (fun e=>hA2.r.ne hO2 (by decide) e.symm rfl));have hbl3:Below W.heap.size W w3:=hA2.b.grown hgrow hA2.b.size (fun j e=>(hO2.lt j e).1);have HW3:=(show Hid (AtO w0 W (w3.setCell ⟨W.heap.size+1,0,none⟩ (.slice (some ⟨g3,0,none⟩) (k+1) cap)) (.slice (some ⟨g3,0,none⟩) (k+1) cap) ov (k+1)) from
      ⟨hbl3.setCell (p:=⟨W.heap.size+1,0,none⟩) (Nat.le_succ _) _,hr3.same (bS _ _ _ _ (by show W.heap.size≠W.heap.size+1;omega)),hx3.set _,by
       rw [HTk.out];exact zam hown fun j hj=>bS _ _ _ _ (hx3.ne hown (by decide) hj)⟩)
     have q3:=hx3.cl;have qf3:=hx3.fz;clear hown hgrow hat hlt3 hA2 hO2 hx3 hr3 hbl3 hO HB2 q0 qf y0 y1 y2 HTk;go_wp2_with fail;go_roundw
     case rel=>exact ⟨k+1,_,by omega,by rw [<-HM.out];omega,by rw [<-HM.out],by go_num,HW3,by rw [<-HM.out];exact HV⟩
     case measure=>simp [intOf];omega
   ·have t1:(r.2 != 0)=true:=by simpa using hr2
    have HV:Hid (R0=some (p0,r.2)):=by show R0=_;rw [HSz.out,iP hr2]
    clear HSz hr2 hsm1 hm1 HTk;generalize smN ov k=s0 at *;go_wp2_with fail;refine (HU _ _ _).mono ?_;rintro e w3 ⟨rfl,rfl⟩;exact zai (P:=Tryz.prog) (fn:=Tryz.f24) rfl (by show GrV w0 W ov R0 _ _;rw [HV.out];exact ⟨rfl,HB2.1.b⟩)
  ·obtain rfl:k=ov.length:=by omega
   have HV:Hid (R0=none):=by show R0=_;rw [HR.out,List.drop_of_length_le (nL _)];rfl
   have HO:Hid (wr.ownsRow W.heap.size 41 2 gv ov.length (grc ov)):=by have:=HW.o;rw [List.take_of_length_le (nL _)] at this;exact this
   have q0:=HW.x.cl;have r0:=HW.r.cl;have rf:=HW.r.fz;obtain ⟨A3,n3,rfl⟩:=zag HO.out;clear HG HR HBd HTx HLn HC;generalize smN ov ov.length=s0 at *;go_wp2_with fail;refine ret_gx rfl rfl rfl (HW.r.set (.slice A3 ov.length n3)) ?_
   show GrV w0 W ov R0 _ _
   rw [HV.out];exact ⟨_,rfl,zam HO fun j hj=>bS _ _ _ _ (HW.r.ne HO (by decide) hj),HW.b.setCell (p:=⟨W.heap.size,0,none⟩) (nL _) _⟩
end Go.Proofs.YtkihfkcmcdiajaaGreatDoor.N
