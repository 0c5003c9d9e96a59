/- DERIVED. Plain mathematics and walks, laid together (18). -/
import Derived.Test.YtkihfkcmcdiajaaGreatDoorPr17
set_option maxRecDepth 100000
set_option maxHeartbeats 8000000
namespace Go.Proofs.YtkihfkcmcdiajaaGreatDoor.T
open Go.RowKit
theorem zae (w:World) (o p:Obj):Below w.heap.size w ((w.alloc o).alloc p):=by
 have h:=zaa w o;exact h.alloc h.size _
theorem zmv (nn:Int) (tx:ByteArray) (a b c d:Int) (_hs:tx.size<=140737488355328) (w:World):Calls Tryz.prog 114 #[.agg #[.int .i64 4,.int .i64 nn,.string tx,.int .u64 a,.int .u64 b,.int .u64 c,.int .u64 d]] w (rB w (.bool (txF 4 tx&&nuF 4 nn&&seF 4 a b c d))):=by
 have sq:=zbI 4 a b c d (by decide);have hq:=zcu a b c d 0 0 0 0
 cases hz:seE a b c d 0 0 0 0 with
 | false =>
  have HF:Hid ((txF 4 tx&&nuF 4 nn&&seF 4 a b c d)=false):=(by show (_&&_)=_;rw [<-sq,hz,Bool.and_false]);rw [hz] at hq;clear sq hz;go_enter Tryz.func114,Tryz.ntmps114;go_wp2_with fail;go_ret
  exact ⟨by rw [HF.out];rfl,zae _ _ _⟩
 | true =>
  have hse:seF 4 a b c d=true:=by rw [<-sq,hz]
  rw [hz] at hq;clear sq hz;have HU:Hid (nuF 4 nn=decide (nn=0)):=rfl;by_cases n1:nn<0
  ·have HF:Hid ((txF 4 tx&&nuF 4 nn&&seF 4 a b c d)=false):=(by show (_&&_)=_;rw [hse,HU.out,dF (by omega),Bool.and_true,Bool.and_false])
   clear HU hse;go_enter Tryz.func114,Tryz.ntmps114;go_wp2_with fail;go_ret
   exact ⟨by rw [HF.out];rfl,zae _ _ _⟩
  by_cases n2:50<nn
  ·have HF:Hid ((txF 4 tx&&nuF 4 nn&&seF 4 a b c d)=false):=(by show (_&&_)=_;rw [hse,HU.out,dF (by omega),Bool.and_true,Bool.and_false])
   clear HU hse;go_enter Tryz.func114,Tryz.ntmps114;go_wp2_with fail;go_ret
   exact ⟨by rw [HF.out];rfl,zae _ _ _⟩
  by_cases n3:nn=0
  rotate_left
  ·have HF:Hid ((txF 4 tx&&nuF 4 nn&&seF 4 a b c d)=false):=(by show (_&&_)=_;rw [hse,HU.out,dF n3,Bool.and_true,Bool.and_false])
   have f3:(nn==0)=false:=bF n3;clear HU hse n3;go_enter Tryz.func114,Tryz.ntmps114;go_wp2_with fail;go_ret
   exact ⟨by rw [HF.out];rfl,zae _ _ _⟩
  have f3:(nn==0)=true:=beq_iff_eq.2 n3;have HF:Hid ((txF 4 tx&&nuF 4 nn&&seF 4 a b c d)=txF 4 tx):=(by show (_&&_)=_;rw [hse,HU.out,decide_eq_true (by omega),Bool.and_true,Bool.and_true]);clear hse HU n3;by_cases q0:(tx.size:Int)<1
  ·have HG:Hid (txF 4 tx=false):=(by show txF 4 tx=_;unfold txF;rw [iP rfl,dF (by omega)])
   go_enter Tryz.func114,Tryz.ntmps114;go_wp2_with fail;go_ret
   exact ⟨by rw [HF.out,HG.out];rfl,zae _ _ _⟩
  ·have HG:Hid (txF 4 tx=decide ((tx.size:Int)<=255)):=(by
    show txF 4 tx=_
    unfold txF;rw [iP rfl];by_cases q:tx.size<=255
    ·rw [decide_eq_true (by omega),decide_eq_true (by omega)]
    ·rw [dF (by omega),dF (by omega)])
   go_enter Tryz.func114,Tryz.ntmps114;go_wp2_with fail;go_ret
   exact ⟨by rw [HF.out,HG.out];rfl,zae _ _ _⟩
theorem zmw (nn:Int) (tx:ByteArray) (a b c d:Int) (hs:tx.size<=140737488355328) (w:World):Calls Tryz.prog 114 #[.agg #[.int .i64 6,.int .i64 nn,.string tx,.int .u64 a,.int .u64 b,.int .u64 c,.int .u64 d]] w (rB w (.bool (txF 6 tx&&nuF 6 nn&&seF 6 a b c d))):=by
 have sq:=zbI 6 a b c d (by decide);have hq:=zcu a b c d 0 0 0 0
 cases hz:seE a b c d 0 0 0 0 with
 | false =>
  have HF:Hid ((txF 6 tx&&nuF 6 nn&&seF 6 a b c d)=false):=(by show (_&&_)=_;rw [<-sq,hz,Bool.and_false]);rw [hz] at hq;clear sq hz;go_enter Tryz.func114,Tryz.ntmps114;go_wp2_with fail;go_ret
  exact ⟨by rw [HF.out];rfl,zae _ _ _⟩
 | true =>
  have hse:seF 6 a b c d=true:=by rw [<-sq,hz]
  rw [hz] at hq;clear sq hz;have HU:Hid (nuF 6 nn=decide (nn=0)):=rfl;by_cases n1:nn<0
  ·have HF:Hid ((txF 6 tx&&nuF 6 nn&&seF 6 a b c d)=false):=(by show (_&&_)=_;rw [hse,HU.out,dF (by omega),Bool.and_true,Bool.and_false])
   clear HU hse;go_enter Tryz.func114,Tryz.ntmps114;go_wp2_with fail;go_ret
   exact ⟨by rw [HF.out];rfl,zae _ _ _⟩
  by_cases n2:50<nn
  ·have HF:Hid ((txF 6 tx&&nuF 6 nn&&seF 6 a b c d)=false):=(by show (_&&_)=_;rw [hse,HU.out,dF (by omega),Bool.and_true,Bool.and_false])
   clear HU hse;go_enter Tryz.func114,Tryz.ntmps114;go_wp2_with fail;go_ret
   exact ⟨by rw [HF.out];rfl,zae _ _ _⟩
  by_cases n3:nn=0
  rotate_left
  ·have HF:Hid ((txF 6 tx&&nuF 6 nn&&seF 6 a b c d)=false):=(by show (_&&_)=_;rw [hse,HU.out,dF n3,Bool.and_true,Bool.and_false])
   have f3:(nn==0)=false:=bF n3;clear HU hse n3;go_enter Tryz.func114,Tryz.ntmps114;go_wp2_with fail;go_ret
   exact ⟨by rw [HF.out];rfl,zae _ _ _⟩
  have f3:(nn==0)=true:=beq_iff_eq.2 n3;have HF:Hid ((txF 6 tx&&nuF 6 nn&&seF 6 a b c d)=txF 6 tx):=(by show (_&&_)=_;rw [hse,HU.out,decide_eq_true (by omega),Bool.and_true,Bool.and_true]);clear hse HU n3;have HN:Hid (∀w,Cl 142 #[.string tx] w (rU w (.bool (nmB tx)))):=fun w=>zgn tx hs w
  have HG:Hid (txF 6 tx=nmB tx):=rfl;go_enter Tryz.func114,Tryz.ntmps114;go_wp2_with fail;refine (HN _).mono ?_;rintro e w2 ⟨rfl,rfl⟩;clear HN;go_wp2_with fail;go_ret
  exact ⟨by rw [HF.out,HG.out];rfl,zae _ _ _⟩
theorem zkP (nn:Int) (tx:ByteArray) (a b c d:Int) (hs:tx.size<=140737488355328) (w:World):Calls Tryz.prog 114 #[.agg #[.int .i64 19,.int .i64 nn,.string tx,.int .u64 a,.int .u64 b,.int .u64 c,.int .u64 d]] w (rB w (.bool (txF 19 tx&&nuF 19 nn&&seF 19 a b c d))):=by
 have sq:=zbI 19 a b c d (by decide);have hq:=zcu a b c d 0 0 0 0
 cases hz:seE a b c d 0 0 0 0 with
 | false =>
  have HF:Hid ((txF 19 tx&&nuF 19 nn&&seF 19 a b c d)=false):=(by show (_&&_)=_;rw [<-sq,hz,Bool.and_false]);rw [hz] at hq;clear sq hz;go_enter Tryz.func114,Tryz.ntmps114;go_wp2_with fail;go_ret
  exact ⟨by rw [HF.out];rfl,zae _ _ _⟩
 | true =>
  have hse:seF 19 a b c d=true:=by rw [<-sq,hz]
  rw [hz] at hq;clear sq hz;have HU:Hid (nuF 19 nn=decide (nn=0)):=rfl;by_cases n1:nn<0
  ·have HF:Hid ((txF 19 tx&&nuF 19 nn&&seF 19 a b c d)=false):=(by show (_&&_)=_;rw [hse,HU.out,dF (by omega),Bool.and_true,Bool.and_false])
   clear HU hse;go_enter Tryz.func114,Tryz.ntmps114;go_wp2_with fail;go_ret
   exact ⟨by rw [HF.out];rfl,zae _ _ _⟩
  by_cases n2:50<nn
  ·have HF:Hid ((txF 19 tx&&nuF 19 nn&&seF 19 a b c d)=false):=(by show (_&&_)=_;rw [hse,HU.out,dF (by omega),Bool.and_true,Bool.and_false])
   clear HU hse;go_enter Tryz.func114,Tryz.ntmps114;go_wp2_with fail;go_ret
   exact ⟨by rw [HF.out];rfl,zae _ _ _⟩
  by_cases n3:nn=0
  rotate_left
  ·have HF:Hid ((txF 19 tx&&nuF 19 nn&&seF 19 a b c d)=false):=(by show (_&&_)=_;rw [hse,HU.out,dF n3,Bool.and_true,Bool.and_false])
   have f3:(nn==0)=false:=bF n3;clear HU hse n3;go_enter Tryz.func114,Tryz.ntmps114;go_wp2_with fail;go_ret
   exact ⟨by rw [HF.out];rfl,zae _ _ _⟩
  have f3:(nn==0)=true:=beq_iff_eq.2 n3;have HF:Hid ((txF 19 tx&&nuF 19 nn&&seF 19 a b c d)=txF 19 tx):=(by show (_&&_)=_;rw [hse,HU.out,decide_eq_true (by omega),Bool.and_true,Bool.and_true]);clear hse HU n3;by_cases q0:tx.size=0
  ·have HG:Hid (txF 19 tx=true):=(by show txF 19 tx=_;unfold txF;rw [iN (by decide),iN (by decide),iP rfl,decide_eq_true q0];rfl)
   have t0:=zeq q0;clear q0;go_enter Tryz.func114,Tryz.ntmps114;go_wp2_with fail;go_ret
   exact ⟨by rw [HF.out,HG.out];rfl,zae _ _ _⟩
  ·have HG:Hid (txF 19 tx=nmB tx):=(by show txF 19 tx=_;unfold txF;rw [iN (by decide),iN (by decide),iP rfl,dF q0];rfl)
   have t0:=zdP q0;have HN:Hid (∀w,Cl 142 #[.string tx] w (rU w (.bool (nmB tx)))):=fun w=>zgn tx hs w
   clear q0;go_enter Tryz.func114,Tryz.ntmps114;go_wp2_with fail;refine (HN _).mono ?_;rintro e w2 ⟨rfl,rfl⟩;clear HN;go_wp2_with fail;go_ret
   exact ⟨by rw [HF.out,HG.out];rfl,zae _ _ _⟩
theorem zkQ (nn:Int) (tx:ByteArray) (a b c d:Int) (hs:tx.size<=140737488355328) (w:World):Calls Tryz.prog 114 #[.agg #[.int .i64 22,.int .i64 nn,.string tx,.int .u64 a,.int .u64 b,.int .u64 c,.int .u64 d]] w (rB w (.bool (txF 22 tx&&nuF 22 nn&&seF 22 a b c d))):=by
 have sq:=zbI 22 a b c d (by decide);have hq:=zcu a b c d 0 0 0 0
 cases hz:seE a b c d 0 0 0 0 with
 | false =>
  have HF:Hid ((txF 22 tx&&nuF 22 nn&&seF 22 a b c d)=false):=(by show (_&&_)=_;rw [<-sq,hz,Bool.and_false]);rw [hz] at hq;clear sq hz;go_enter Tryz.func114,Tryz.ntmps114;go_wp2_with fail;go_ret
  exact ⟨by rw [HF.out];rfl,zae _ _ _⟩
 | true =>
  have hse:seF 22 a b c d=true:=by rw [<-sq,hz]
  rw [hz] at hq;clear sq hz;have HU:Hid (nuF 22 nn=decide (nn=0)):=rfl;by_cases n1:nn<0
  ·have HF:Hid ((txF 22 tx&&nuF 22 nn&&seF 22 a b c d)=false):=(by show (_&&_)=_;rw [hse,HU.out,dF (by omega),Bool.and_true,Bool.and_false])
   clear HU hse;go_enter Tryz.func114,Tryz.ntmps114;go_wp2_with fail;go_ret
   exact ⟨by rw [HF.out];rfl,zae _ _ _⟩
  by_cases n2:50<nn
  ·have HF:Hid ((txF 22 tx&&nuF 22 nn&&seF 22 a b c d)=false):=(by show (_&&_)=_;rw [hse,HU.out,dF (by omega),Bool.and_true,Bool.and_false])
   clear HU hse;go_enter Tryz.func114,Tryz.ntmps114;go_wp2_with fail;go_ret
   exact ⟨by rw [HF.out];rfl,zae _ _ _⟩
  by_cases n3:nn=0
  rotate_left
  ·have HF:Hid ((txF 22 tx&&nuF 22 nn&&seF 22 a b c d)=false):=(by show (_&&_)=_;rw [hse,HU.out,dF n3,Bool.and_true,Bool.and_false])
   have f3:(nn==0)=false:=bF n3;clear HU hse n3;go_enter Tryz.func114,Tryz.ntmps114;go_wp2_with fail;go_ret
   exact ⟨by rw [HF.out];rfl,zae _ _ _⟩
  have f3:(nn==0)=true:=beq_iff_eq.2 n3;have HF:Hid ((txF 22 tx&&nuF 22 nn&&seF 22 a b c d)=txF 22 tx):=(by show (_&&_)=_;rw [hse,HU.out,decide_eq_true (by omega),Bool.and_true,Bool.and_true]);clear hse HU n3;have HN:Hid (∀w,Cl 143 #[.string tx] w (rU w (.bool (tmB tx)))):=fun w=>zdB tx hs w
  have HG:Hid (txF 22 tx=tmB tx):=rfl;go_enter Tryz.func114,Tryz.ntmps114;go_wp2_with fail;refine (HN _).mono ?_;rintro e w2 ⟨rfl,rfl⟩;clear HN;go_wp2_with fail;go_ret
  exact ⟨by rw [HF.out,HG.out];rfl,zae _ _ _⟩
theorem zmx (nn:Int) (tx:ByteArray) (a b c d:Int) (_hs:tx.size<=140737488355328) (w:World):Calls Tryz.prog 114 #[.agg #[.int .i64 5,.int .i64 nn,.string tx,.int .u64 a,.int .u64 b,.int .u64 c,.int .u64 d]] w (rB w (.bool (txF 5 tx&&nuF 5 nn&&seF 5 a b c d))):=by
 have hse:seF 5 a b c d=true:=rfl;have HU:Hid (nuF 5 nn=decide (nn=0)):=rfl;by_cases n1:nn<0
 ·have HF:Hid ((txF 5 tx&&nuF 5 nn&&seF 5 a b c d)=false):=(by show (_&&_)=_;rw [hse,HU.out,dF (by omega),Bool.and_true,Bool.and_false])
  clear HU hse;go_enter Tryz.func114,Tryz.ntmps114;go_wp2_with fail;go_ret
  exact ⟨by rw [HF.out];rfl,zae _ _ _⟩
 by_cases n2:50<nn
 ·have HF:Hid ((txF 5 tx&&nuF 5 nn&&seF 5 a b c d)=false):=(by show (_&&_)=_;rw [hse,HU.out,dF (by omega),Bool.and_true,Bool.and_false])
  clear HU hse;go_enter Tryz.func114,Tryz.ntmps114;go_wp2_with fail;go_ret
  exact ⟨by rw [HF.out];rfl,zae _ _ _⟩
 by_cases n3:nn=0
 rotate_left
 ·have HF:Hid ((txF 5 tx&&nuF 5 nn&&seF 5 a b c d)=false):=(by show (_&&_)=_;rw [hse,HU.out,dF n3,Bool.and_true,Bool.and_false])
  have f3:(nn==0)=false:=bF n3;clear HU hse n3;go_enter Tryz.func114,Tryz.ntmps114;go_wp2_with fail;go_ret
  exact ⟨by rw [HF.out];rfl,zae _ _ _⟩
 have f3:(nn==0)=true:=beq_iff_eq.2 n3;have HF:Hid ((txF 5 tx&&nuF 5 nn&&seF 5 a b c d)=txF 5 tx):=(by show (_&&_)=_;rw [hse,HU.out,decide_eq_true (by omega),Bool.and_true,Bool.and_true]);clear hse HU n3;have HT:Hid (txF 5 tx=decide (tx.size=0)):=rfl;by_cases q0:tx.size=0
 ·have HG:Hid (txF 5 tx=true):=(by show txF _ tx=_;rw [HT.out,decide_eq_true q0])
  have t0:=zeq q0;clear q0;go_enter Tryz.func114,Tryz.ntmps114;go_wp2_with fail;go_ret
  exact ⟨by rw [HF.out,HG.out];rfl,zae _ _ _⟩
 ·have HG:Hid (txF 5 tx=false):=(by show txF _ tx=_;rw [HT.out,dF q0])
  have t0:=zdP q0;clear q0;go_enter Tryz.func114,Tryz.ntmps114;go_wp2_with fail;go_ret
  exact ⟨by rw [HF.out,HG.out];rfl,zae _ _ _⟩
theorem zkR (nn:Int) (tx:ByteArray) (a b c d:Int) (_hs:tx.size<=140737488355328) (w:World):Calls Tryz.prog 114 #[.agg #[.int .i64 14,.int .i64 nn,.string tx,.int .u64 a,.int .u64 b,.int .u64 c,.int .u64 d]] w (rB w (.bool (txF 14 tx&&nuF 14 nn&&seF 14 a b c d))):=by
 have sq:=zbI 14 a b c d (by decide);have hq:=zcu a b c d 0 0 0 0
 cases hz:seE a b c d 0 0 0 0 with
 | false =>
  have HF:Hid ((txF 14 tx&&nuF 14 nn&&seF 14 a b c d)=false):=(by show (_&&_)=_;rw [<-sq,hz,Bool.and_false]);rw [hz] at hq;clear sq hz;go_enter Tryz.func114,Tryz.ntmps114;go_wp2_with fail;go_ret
  exact ⟨by rw [HF.out];rfl,zae _ _ _⟩
 | true =>
  have hse:seF 14 a b c d=true:=by rw [<-sq,hz]
  rw [hz] at hq;clear sq hz;have HU:Hid (nuF 14 nn=decide (0<=nn/\nn<=50)):=rfl;by_cases n1:nn<0
  ·have HF:Hid ((txF 14 tx&&nuF 14 nn&&seF 14 a b c d)=false):=(by show (_&&_)=_;rw [hse,HU.out,dF (by omega),Bool.and_true,Bool.and_false])
   clear HU hse;go_enter Tryz.func114,Tryz.ntmps114;go_wp2_with fail;go_ret
   exact ⟨by rw [HF.out];rfl,zae _ _ _⟩
  by_cases n2:50<nn
  ·have HF:Hid ((txF 14 tx&&nuF 14 nn&&seF 14 a b c d)=false):=(by show (_&&_)=_;rw [hse,HU.out,dF (by omega),Bool.and_true,Bool.and_false])
   clear HU hse;go_enter Tryz.func114,Tryz.ntmps114;go_wp2_with fail;go_ret
   exact ⟨by rw [HF.out];rfl,zae _ _ _⟩
  have HF:Hid ((txF 14 tx&&nuF 14 nn&&seF 14 a b c d)=txF 14 tx):=(by show (_&&_)=_;rw [hse,HU.out,decide_eq_true (by omega),Bool.and_true,Bool.and_true]);clear hse HU;have HT:Hid (txF 14 tx=decide (tx.size=0)):=rfl;by_cases q0:tx.size=0
  ·have HG:Hid (txF 14 tx=true):=(by show txF _ tx=_;rw [HT.out,decide_eq_true q0])
   have t0:=zeq q0;clear q0;go_enter Tryz.func114,Tryz.ntmps114;go_wp2_with fail;go_ret
   exact ⟨by rw [HF.out,HG.out];rfl,zae _ _ _⟩
  ·have HG:Hid (txF 14 tx=false):=(by show txF _ tx=_;rw [HT.out,dF q0])
   have t0:=zdP q0;clear q0;go_enter Tryz.func114,Tryz.ntmps114;go_wp2_with fail;go_ret
   exact ⟨by rw [HF.out,HG.out];rfl,zae _ _ _⟩
theorem zkS (nn:Int) (tx:ByteArray) (a b c d:Int) (_hs:tx.size<=140737488355328) (w:World):Calls Tryz.prog 114 #[.agg #[.int .i64 15,.int .i64 nn,.string tx,.int .u64 a,.int .u64 b,.int .u64 c,.int .u64 d]] w (rB w (.bool (txF 15 tx&&nuF 15 nn&&seF 15 a b c d))):=by
 have sq:=zbI 15 a b c d (by decide);have hq:=zcu a b c d 0 0 0 0
 cases hz:seE a b c d 0 0 0 0 with
 | false =>
  have HF:Hid ((txF 15 tx&&nuF 15 nn&&seF 15 a b c d)=false):=(by show (_&&_)=_;rw [<-sq,hz,Bool.and_false]);rw [hz] at hq;clear sq hz;go_enter Tryz.func114,Tryz.ntmps114;go_wp2_with fail;go_ret
  exact ⟨by rw [HF.out];rfl,zae _ _ _⟩
 | true =>
  have hse:seF 15 a b c d=true:=by rw [<-sq,hz]
  rw [hz] at hq;clear sq hz;have HU:Hid (nuF 15 nn=decide (0<=nn/\nn<=50)):=rfl;by_cases n1:nn<0
  ·have HF:Hid ((txF 15 tx&&nuF 15 nn&&seF 15 a b c d)=false):=(by show (_&&_)=_;rw [hse,HU.out,dF (by omega),Bool.and_true,Bool.and_false])
   clear HU hse;go_enter Tryz.func114,Tryz.ntmps114;go_wp2_with fail;go_ret
   exact ⟨by rw [HF.out];rfl,zae _ _ _⟩
  by_cases n2:50<nn
  ·have HF:Hid ((txF 15 tx&&nuF 15 nn&&seF 15 a b c d)=false):=(by show (_&&_)=_;rw [hse,HU.out,dF (by omega),Bool.and_true,Bool.and_false])
   clear HU hse;go_enter Tryz.func114,Tryz.ntmps114;go_wp2_with fail;go_ret
   exact ⟨by rw [HF.out];rfl,zae _ _ _⟩
  have HF:Hid ((txF 15 tx&&nuF 15 nn&&seF 15 a b c d)=txF 15 tx):=(by show (_&&_)=_;rw [hse,HU.out,decide_eq_true (by omega),Bool.and_true,Bool.and_true]);clear hse HU;have HT:Hid (txF 15 tx=decide (tx.size=0)):=rfl;by_cases q0:tx.size=0
  ·have HG:Hid (txF 15 tx=true):=(by show txF _ tx=_;rw [HT.out,decide_eq_true q0])
   have t0:=zeq q0;clear q0;go_enter Tryz.func114,Tryz.ntmps114;go_wp2_with fail;go_ret
   exact ⟨by rw [HF.out,HG.out];rfl,zae _ _ _⟩
  ·have HG:Hid (txF 15 tx=false):=(by show txF _ tx=_;rw [HT.out,dF q0])
   have t0:=zdP q0;clear q0;go_enter Tryz.func114,Tryz.ntmps114;go_wp2_with fail;go_ret
   exact ⟨by rw [HF.out,HG.out];rfl,zae _ _ _⟩
theorem zkT (nn:Int) (tx:ByteArray) (a b c d:Int) (_hs:tx.size<=140737488355328) (w:World):Calls Tryz.prog 114 #[.agg #[.int .i64 16,.int .i64 nn,.string tx,.int .u64 a,.int .u64 b,.int .u64 c,.int .u64 d]] w (rB w (.bool (txF 16 tx&&nuF 16 nn&&seF 16 a b c d))):=by
 have sq:=zbI 16 a b c d (by decide);have hq:=zcu a b c d 0 0 0 0
 cases hz:seE a b c d 0 0 0 0 with
 | false =>
  have HF:Hid ((txF 16 tx&&nuF 16 nn&&seF 16 a b c d)=false):=(by show (_&&_)=_;rw [<-sq,hz,Bool.and_false]);rw [hz] at hq;clear sq hz;go_enter Tryz.func114,Tryz.ntmps114;go_wp2_with fail;go_ret
  exact ⟨by rw [HF.out];rfl,zae _ _ _⟩
 | true =>
  have hse:seF 16 a b c d=true:=by rw [<-sq,hz]
  rw [hz] at hq;clear sq hz;have HU:Hid (nuF 16 nn=decide (0<=nn/\nn<=50)):=rfl;by_cases n1:nn<0
  ·have HF:Hid ((txF 16 tx&&nuF 16 nn&&seF 16 a b c d)=false):=(by show (_&&_)=_;rw [hse,HU.out,dF (by omega),Bool.and_true,Bool.and_false])
   clear HU hse;go_enter Tryz.func114,Tryz.ntmps114;go_wp2_with fail;go_ret
   exact ⟨by rw [HF.out];rfl,zae _ _ _⟩
  by_cases n2:50<nn
  ·have HF:Hid ((txF 16 tx&&nuF 16 nn&&seF 16 a b c d)=false):=(by show (_&&_)=_;rw [hse,HU.out,dF (by omega),Bool.and_true,Bool.and_false])
   clear HU hse;go_enter Tryz.func114,Tryz.ntmps114;go_wp2_with fail;go_ret
   exact ⟨by rw [HF.out];rfl,zae _ _ _⟩
  have HF:Hid ((txF 16 tx&&nuF 16 nn&&seF 16 a b c d)=txF 16 tx):=(by show (_&&_)=_;rw [hse,HU.out,decide_eq_true (by omega),Bool.and_true,Bool.and_true]);clear hse HU;have HT:Hid (txF 16 tx=decide (tx.size=0)):=rfl;by_cases q0:tx.size=0
  ·have HG:Hid (txF 16 tx=true):=(by show txF _ tx=_;rw [HT.out,decide_eq_true q0])
   have t0:=zeq q0;clear q0;go_enter Tryz.func114,Tryz.ntmps114;go_wp2_with fail;go_ret
   exact ⟨by rw [HF.out,HG.out];rfl,zae _ _ _⟩
  ·have HG:Hid (txF 16 tx=false):=(by show txF _ tx=_;rw [HT.out,dF q0])
   have t0:=zdP q0;clear q0;go_enter Tryz.func114,Tryz.ntmps114;go_wp2_with fail;go_ret
   exact ⟨by rw [HF.out,HG.out];rfl,zae _ _ _⟩
theorem zkU (nn:Int) (tx:ByteArray) (a b c d:Int) (_hs:tx.size<=140737488355328) (w:World):Calls Tryz.prog 114 #[.agg #[.int .i64 23,.int .i64 nn,.string tx,.int .u64 a,.int .u64 b,.int .u64 c,.int .u64 d]] w (rB w (.bool (txF 23 tx&&nuF 23 nn&&seF 23 a b c d))):=by
 have sq:=zbI 23 a b c d (by decide);have hq:=zcu a b c d 0 0 0 0
 cases hz:seE a b c d 0 0 0 0 with
 | false =>
  have HF:Hid ((txF 23 tx&&nuF 23 nn&&seF 23 a b c d)=false):=(by show (_&&_)=_;rw [<-sq,hz,Bool.and_false]);rw [hz] at hq;clear sq hz;go_enter Tryz.func114,Tryz.ntmps114;go_wp2_with fail;go_ret
  exact ⟨by rw [HF.out];rfl,zae _ _ _⟩
 | true =>
  have hse:seF 23 a b c d=true:=by rw [<-sq,hz]
  rw [hz] at hq;clear sq hz;have HU:Hid (nuF 23 nn=decide (0<=nn/\nn<=50)):=rfl;by_cases n1:nn<0
  ·have HF:Hid ((txF 23 tx&&nuF 23 nn&&seF 23 a b c d)=false):=(by show (_&&_)=_;rw [hse,HU.out,dF (by omega),Bool.and_true,Bool.and_false])
   clear HU hse;go_enter Tryz.func114,Tryz.ntmps114;go_wp2_with fail;go_ret
   exact ⟨by rw [HF.out];rfl,zae _ _ _⟩
  by_cases n2:50<nn
  ·have HF:Hid ((txF 23 tx&&nuF 23 nn&&seF 23 a b c d)=false):=(by show (_&&_)=_;rw [hse,HU.out,dF (by omega),Bool.and_true,Bool.and_false])
   clear HU hse;go_enter Tryz.func114,Tryz.ntmps114;go_wp2_with fail;go_ret
   exact ⟨by rw [HF.out];rfl,zae _ _ _⟩
  have HF:Hid ((txF 23 tx&&nuF 23 nn&&seF 23 a b c d)=txF 23 tx):=(by show (_&&_)=_;rw [hse,HU.out,decide_eq_true (by omega),Bool.and_true,Bool.and_true]);clear hse HU;have HT:Hid (txF 23 tx=decide (tx.size=0)):=rfl;by_cases q0:tx.size=0
  ·have HG:Hid (txF 23 tx=true):=(by show txF _ tx=_;rw [HT.out,decide_eq_true q0])
   have t0:=zeq q0;clear q0;go_enter Tryz.func114,Tryz.ntmps114;go_wp2_with fail;go_ret
   exact ⟨by rw [HF.out,HG.out];rfl,zae _ _ _⟩
  ·have HG:Hid (txF 23 tx=false):=(by show txF _ tx=_;rw [HT.out,dF q0])
   have t0:=zdP q0;clear q0;go_enter Tryz.func114,Tryz.ntmps114;go_wp2_with fail;go_ret
   exact ⟨by rw [HF.out,HG.out];rfl,zae _ _ _⟩
theorem ziw (op nn:Int) (tx:ByteArray) (a b c d:Int) (_hs:tx.size<=140737488355328) (h4:¬op=4) (h6:¬op=6) (h19:¬op=19) (h22:¬op=22) (h5:¬op=5) (h14:¬op=14) (h15:¬op=15) (h16:¬op=16) (h23:¬op=23) (w:World):Calls Tryz.prog 114 #[.agg #[.int .i64 op,.int .i64 nn,.string tx,.int .u64 a,.int .u64 b,.int .u64 c,.int .u64 d]] w (rB w (.bool (txF op tx&&nuF op nn&&seF op a b c d))):=by
 have e4:(op==4)=false:=bF h4;have e6:(op==6)=false:=bF h6;have e19:(op==19)=false:=bF h19;have e22:(op==22)=false:=bF h22;have e5:(op != 5)=true:=by rw [bne,bF h5];rfl
 have e14:(op==14)=false:=bF h14;have e15:(op==15)=false:=bF h15;have e16:(op==16)=false:=bF h16;have e23:(op==23)=false:=bF h23;have sq:=zbI op a b c d h5;have hq:=zcu a b c d 0 0 0 0
 cases hz:seE a b c d 0 0 0 0 with
 | false =>
  have HF:Hid ((txF op tx&&nuF op nn&&seF op a b c d)=false):=(by show (_&&_)=_;rw [<-sq,hz,Bool.and_false]);rw [hz] at hq;clear sq hz h4 h6 h19 h22 h5 h14 h15 h16 h23;go_enter Tryz.func114,Tryz.ntmps114;go_wp2_with fail;go_ret
  exact ⟨by rw [HF.out];rfl,zae _ _ _⟩
 | true =>
  have hse:seF op a b c d=true:=by rw [<-sq,hz]
  rw [hz] at hq;clear sq hz;have HU:Hid (nuF op nn=decide (nn=0)):=(by show nuF op nn=_;unfold nuF;rw [iN (by omega)]);by_cases n1:nn<0
  ·have HF:Hid ((txF op tx&&nuF op nn&&seF op a b c d)=false):=(by show (_&&_)=_;rw [hse,HU.out,dF (by omega),Bool.and_true,Bool.and_false])
   clear HU hse h4 h6 h19 h22 h5 h14 h15 h16 h23;go_enter Tryz.func114,Tryz.ntmps114;go_wp2_with fail;go_ret
   exact ⟨by rw [HF.out];rfl,zae _ _ _⟩
  by_cases n2:50<nn
  ·have HF:Hid ((txF op tx&&nuF op nn&&seF op a b c d)=false):=(by show (_&&_)=_;rw [hse,HU.out,dF (by omega),Bool.and_true,Bool.and_false])
   clear HU hse h4 h6 h19 h22 h5 h14 h15 h16 h23;go_enter Tryz.func114,Tryz.ntmps114;go_wp2_with fail;go_ret
   exact ⟨by rw [HF.out];rfl,zae _ _ _⟩
  by_cases n3:nn=0
  rotate_left
  ·have HF:Hid ((txF op tx&&nuF op nn&&seF op a b c d)=false):=(by show (_&&_)=_;rw [hse,HU.out,dF n3,Bool.and_true,Bool.and_false])
   have f3:(nn==0)=false:=bF n3;clear HU hse n3 h4 h6 h19 h22 h5 h14 h15 h16 h23;go_enter Tryz.func114,Tryz.ntmps114;go_wp2_with fail;go_ret
   exact ⟨by rw [HF.out];rfl,zae _ _ _⟩
  have f3:(nn==0)=true:=beq_iff_eq.2 n3;have HF:Hid ((txF op tx&&nuF op nn&&seF op a b c d)=txF op tx):=(by show (_&&_)=_;rw [hse,HU.out,decide_eq_true (by omega),Bool.and_true,Bool.and_true]);clear hse HU n3;have HT:Hid (txF op tx=decide (tx.size=0)):=(by show txF op tx=_;unfold txF;rw [iN h4,iN h6,iN h19,iN h22]);clear h4 h6 h19 h22 h5 h14 h15 h16 h23;by_cases q0:tx.size=0
  ·have HG:Hid (txF op tx=true):=(by show txF _ tx=_;rw [HT.out,decide_eq_true q0])
   have t0:=zeq q0;clear q0;go_enter Tryz.func114,Tryz.ntmps114;go_wp2_with fail;go_ret
   exact ⟨by rw [HF.out,HG.out];rfl,zae _ _ _⟩
  ·have HG:Hid (txF op tx=false):=(by show txF _ tx=_;rw [HT.out,dF q0])
   have t0:=zdP q0;clear q0;go_enter Tryz.func114,Tryz.ntmps114;go_wp2_with fail;go_ret
   exact ⟨by rw [HF.out,HG.out];rfl,zae _ _ _⟩
theorem fieldR (n:Nd) (hs:n.tx.size<=140737488355328) (w:World):Calls Tryz.prog 114 #[ndG n] w (rB w (.bool (fdF n))):=by
 obtain ⟨op,nn,tx,a,b,c,d⟩:=n
 show Calls Tryz.prog 114 #[.agg #[.int .i64 op,.int .i64 nn,.string tx,.int .u64 a,.int .u64 b,.int .u64 c,.int .u64 d]] w (rB w (.bool (txF op tx&&nuF op nn&&seF op a b c d)))
 by_cases h4:op=4
 ·subst h4;exact zmv nn tx a b c d hs w
 by_cases h6:op=6
 ·subst h6;exact zmw nn tx a b c d hs w
 by_cases h19:op=19
 ·subst h19;exact zkP nn tx a b c d hs w
 by_cases h22:op=22
 ·subst h22;exact zkQ nn tx a b c d hs w
 by_cases h5:op=5
 ·subst h5;exact zmx nn tx a b c d hs w
 by_cases h14:op=14
 ·subst h14;exact zkR nn tx a b c d hs w
 by_cases h15:op=15
 ·subst h15;exact zkS nn tx a b c d hs w
 by_cases h16:op=16
 ·subst h16;exact zkT nn tx a b c d hs w
 by_cases h23:op=23
 ·subst h23;exact zkU nn tx a b c d hs w
 exact ziw op nn tx a b c d hs h4 h6 h19 h22 h5 h14 h15 h16 h23 w
theorem Tryz.info3:(Tryz.prog.info? 3).map (fun i=>(i.zero,i.size,i.bytes))=some (some (.int .i64 0),1,8):=by kernel_rfl
def bgc (L:List Nd) (k:Nat):List Value:=(List.range k).map fun j=>.int .i64 (pt L j).1
def hic (L:List Nd) (k:Nat):List Value:=(List.range k).map fun j=>.int .i64 (pt L j).2.2
theorem zmy (L:List Nd) (k:Nat):bgc L (k+1)=bgc L k++[.int .i64 (pt L k).1]:=by unfold bgc;rw [List.range_succ,List.map_append];rfl
theorem zmz (L:List Nd) (k:Nat):hic L (k+1)=hic L k++[.int .i64 (pt L k).2.2]:=by unfold hic;rw [List.range_succ,List.map_append];rfl
theorem zdW {L:List Nd} {k j:Nat} (h:j<k):(bgc L k)[j]?=some (.int .i64 (pt L j).1):=by unfold bgc;rw [List.getElem?_map,List.getElem?_range h];rfl
theorem zoX {L:List Nd} {k j:Nat} (h:j<k):(hic L k)[j]?=some (.int .i64 (pt L j).2.2):=by unfold hic;rw [List.getElem?_map,List.getElem?_range h];rfl
structure AtF (L:List Nd) (w wr:World) (k:Nat) (v1 v2:Value):Prop where
 o1:wr.ownsRow w.heap.size 3 1 v1 k (bgc L k)
 o2:wr.ownsRow w.heap.size 3 1 v2 k (hic L k)
 ne:∀g,v1.ownBlock=some g->v2.ownBlock≠some g
 b:Below w.heap.size w wr
 e:∀j,j<k->er L j=0
theorem AtF.below {L:List Nd} {w wr w2:World} {k:Nat} {v1 v2:Value} (h:AtF L w wr k v1 v2) (hb:Below wr.heap.size wr w2):AtF L w w2 k v1 v2 :=
 ⟨zby h.o1 hb,zby h.o2 hb,h.ne,h.b.trans (hb.mono h.b.size),h.e⟩
theorem AtF.form {L:List Nd} {w wr:World} {k:Nat} {v1 v2:Value} (h:AtF L w wr k v1 v2):∃A1 c1 A2 c2,v1=.slice A1 k c1/\v2=.slice A2 k c2/\(0<k->∃g1 g2,A1=some ⟨g1,0,none⟩/\A2=some ⟨g2,0,none⟩):=by
 obtain ⟨A1,c1,e1,q1⟩:∃A1 c1,v1=.slice A1 k c1/\(0<k->∃g,A1=some ⟨g,0,none⟩):=by
  rcases h.o1.2 with ⟨a,b⟩ | ⟨g,cap,cur,a,_⟩
  ·exact ⟨none,0,by rw [a,b],fun q=>by omega⟩
  ·exact ⟨_,cap,a,fun _=>⟨g,rfl⟩⟩
 obtain ⟨A2,c2,e2,q2⟩:∃A2 c2,v2=.slice A2 k c2/\(0<k->∃g,A2=some ⟨g,0,none⟩):=by
  rcases h.o2.2 with ⟨a,b⟩ | ⟨g,cap,cur,a,_⟩
  ·exact ⟨none,0,by rw [a,b],fun q=>by omega⟩
  ·exact ⟨_,cap,a,fun _=>⟨g,rfl⟩⟩
 exact ⟨A1,c1,A2,c2,e1,e2,fun q=>by
  obtain ⟨g1,h1⟩:=q1 q;obtain ⟨g2,h2⟩:=q2 q;exact ⟨g1,g2,h1,h2⟩⟩
def FrV (w w':World) (L:List Nd) (e:Ending):Prop :=
 (∃k,k<L.length/\(∀j,j<k->er L j=0)/\er L k≠0/\e=.returned (.tuple #[.slice none 0 0,.slice none 0 0,.int .i64 k,.int .i64 (er L k)])) ∨
 ((∀j,j<L.length->er L j=0)/\∃v1 v2,e=.returned (.tuple #[v1,v2,.int .i64 0,.int .i64 0])/\AtF L w w' L.length v1 v2)
theorem FrV.bad {w w':World} {L:List Nd} {k:Nat} {c:Int} (hk:k<L.length) (h:∀j,j<k->er L j=0) (he:er L k=c) (hc:c≠0):FrV w w' L (.returned (.tuple #[.slice none 0 0,.slice none 0 0,.int .i64 k,.int .i64 c])) :=
 .inl ⟨k,hk,h,by rw [he];exact hc,by rw [he]⟩
structure AtG (L:List Nd) (w wr:World) (k:Nat) (v1 v2:Value) (B:Nat) (n:Nd) (gp op:Nat):Prop where
 f:AtF L w wr k v1 v2
 x:NB wr B 0 n
 p:NdL wr gp op L
 lp:gp<w.heap.size
theorem AtG.below {L:List Nd} {w wr w2:World} {k:Nat} {v1 v2:Value} {B:Nat} {n:Nd} {gp op:Nat} (h:AtG L w wr k v1 v2 B n gp op) (hb:Below wr.heap.size wr w2):AtG L w w2 k v1 v2 B n gp op :=
 ⟨h.f.below hb,h.x.below hb,h.p.same (hb.block _ (nM h.lp h.f.b.size)),h.lp⟩
theorem zmA (L:List Nd) (Ap:Option Addr) (cp:Nat) (hL:L.length<=2048) (hT:∀n∈L,n.tx.size<=140737488355328) (w:World) (hp:RdN w Ap L) :
  Calls Tryz.prog 84 #[.slice Ap L.length cp] w fun e w'=>FrV w w' L e/\Below w.heap.size w w':=by
 have HP:Hid (RdN w Ap L):=hp;have HA:Hid (AtF L w w 0 (.slice none 0 0) (.slice none 0 0)):=⟨World.ownsRow_nil _ _ _ _,World.ownsRow_nil _ _ _ _,fun g q=>by simp [Value.ownBlock] at q,bR _ _,fun j q=>by omega⟩;have HG:Hid (∀k,k<L.length->∃n,L[k]?=some n/\n.tx.size<=140737488355328/\L≠[]):=fun k hk=>⟨_,gE hk,hT _ (List.getElem_mem hk),by rintro rfl;simp at hk⟩
 clear hT hp;obtain ⟨i0,hinf,hz0,hz1,hz2⟩:=info_parts Tryz.info3;go_enter Tryz.func84,Tryz.ntmps84;go_wp2_with fail;go_loopw [6,7,8] (fun v1 v2 t wr=>∃k:Nat,k<=L.length/\t=.int .i64 k/\Hid (AtF L w wr k v1 v2)) (fun _ _ t _=>L.length - (intOf t).toNat)
 case atStart=>exact ⟨0,by omega,by go_num,HA⟩
 case round =>
  obtain ⟨k,hk,rfl,HW⟩:=hrel;clear HA;by_cases hlt:k<L.length
  ·obtain ⟨n,hn,htx,hne⟩:=HG k hlt
   obtain ⟨gp,op,rfl,lp,cl⟩:=HP hne;have HNn:Hid (L[k]?=some n):=hn;have HFd:Hid (∀w,Cl 114 #[ndG n] w (rB w (.bool (fdF n)))):=fun w=>fieldR n htx w
   have HAr:Hid (∀w,Cl 113 #[.int .i64 n.op] w (rU w (.int .i64 (ar n.op)))):=fun w=>zh4 n.op w
   obtain ⟨c0,c1,c2,c3,c4,c5,c6⟩:=(cl.same (HW.b.block gp lp)) k n hn;have z0:(0:Int)<=(k:Int):=by omega
   have z1:(k:Int)<(L.length:Int):=by omega
   have HW2:Hid (AtG L w (wr.alloc (ndO n)) k _ _ wr.heap.size n gp op):=⟨HW.below (zaa wr (ndO n)),zje wr n,(cl.same (HW.b.block gp lp)).same ((zaa wr (ndO n)).block gp (nM lp HW.b.size)),lp⟩;have HEr:Hid (er L k=if alE n≠0 then alE n else if (run L k).length<arN n.op then 42 else if 60<(pt L k).2.2 then 4 else 0):=zjc hn;clear hn hne cl HG HW HP;by_cases ha:ar n.op<0
   ·have HE:=(show Hid (er L k=40) from by
     show er L k=_
     have:alE n=40:=by unfold alE;rw [iP ha]
     rw [HEr.out,this];rfl)
    clear HEr HFd HNn;go_wp2_with fail;refine (HAr _).mono ?_;rintro e w2 ⟨rfl,rfl⟩;clear HAr c0 c1 c2 c3 c4 c5 c6;have za:decide (ar n.op<0)=true:=decide_eq_true ha;clear ha;generalize ar n.op=aa at *;go_wp2_with fail;refine bodyPost_ret (v:=.tuple #[.slice none 0 0,.slice none 0 0,.int .i64 k,.int .i64 40]) (by simp [results,Tryz.results84,go_sem]) rfl ⟨FrV.bad hlt HW2.f.e HE (by decide),HW2.f.b⟩
   ·have za:decide (ar n.op<0)=false:=dF ha
    cases hf:fdF n with
    | false =>
     have HE:=(show Hid (er L k=41) from by
      show er L k=_
      have:alE n=41:=by unfold alE;rw [iN ha,hf];rfl
      rw [HEr.out,this];rfl)
     clear HEr HNn ha;go_wp2_with fail;refine (HAr _).mono ?_;rintro e w2 ⟨rfl,rfl⟩;clear HAr c0 c1 c2 c3 c4 c5 c6;generalize ar n.op=aa at *;go_wp2_with fail;refine (HFd _).mono ?_;rintro e w3 ⟨rfl,b3⟩;have HW3:=hO (HW2.below b3);clear HW2 HFd b3;rw [hf];go_wp2_with fail;refine bodyPost_ret (v:=.tuple #[.slice none 0 0,.slice none 0 0,.int .i64 k,.int .i64 41]) (by simp [results,Tryz.results84,go_sem]) rfl ⟨FrV.bad hlt HW3.f.e HE (by decide),HW3.f.b⟩
    | true =>
     have hal:alE n=0:=by unfold alE;rw [iN ha,hf];rfl
     have HE2:Hid (er L k=if (run L k).length<arN n.op then 42 else if 60<(pt L k).2.2 then 4 else 0):=by show er L k=_;rw [HEr.out,iN (by rw [hal];simp)]
     have hrn:=zmV hal;have ha2:=ze9 n.op;clear HEr ha;rw [<-hrn] at HAr za;go_wp2_with fail;refine (HAr _).mono ?_;rintro e w2 ⟨rfl,rfl⟩;clear HAr c0 c1 c2 c3 c4 c5 c6 hrn hal;have HOp:Hid (zdF L k=n.op):=zh3 HNn.out;generalize haa:arN n.op=aa at *;have HAa:Hid (arN n.op=aa):=haa;clear haa;go_wp2_with fail;refine (HFd _).mono ?_;rintro e w3 ⟨rfl,b3⟩;have HW3:=hO (HW2.below b3);clear HW2 HFd b3;rw [hf];clear hf;obtain ⟨A1,k1,A2,k2,rfl,rfl,hfo⟩:=HW3.f.form;have HFo:Hid (0<k->∃g1 g2,A1=some ⟨g1,0,none⟩/\A2=some ⟨g2,0,none⟩):=hfo;have HCh:Hid (Chn L k (run L k)):=zgI L k hk HW3.f.e;have HPo:Hid (∀x∈run L k,1<=x.2.2/\x.2.2<=60/\x.2.1<k/\x=pt L x.2.1):=fun x hx=>⟨zoW hk HW3.f.e x hx,(zfY hk HW3.f.e x hx).2.2.1,(zfY hk HW3.f.e x hx).2.1,(zfY hk HW3.f.e x hx).2.2.2⟩
     have HHb:Hid (∀i,hI L n.op aa (run L k) i<=60):=hI_bd L n.op aa (run L k) (fun x hx=>(HPo x hx).2.1);clear hfo;generalize hBz:wr.heap.size=Bz at *;clear hBz;go_wp2_with fail;go_loopw [11,12,13] (fun t u v wq=>∃i c:Nat,c+i=aa/\t=.int .i64 (atI k (run L k) i)/\u=.int .i64 (hI L n.op aa (run L k) i)/\v=.int .i64 c/\Hid (i<=(run L k).length)/\Hid (AtG L w wq k (.slice A1 k k1) (.slice A2 k k2) Bz n gp op)) (fun _ _ v _=>(intOf v).toNat)
     case atStart=>exact ⟨0,aa,by omega,rfl,rfl,rfl,Nat.zero_le _,HW3⟩
     case round =>
      obtain ⟨i,c,hc,rfl,rfl,rfl,HI,HW4⟩:=hrel;clear HW3;by_cases hc0:0<c
      ·have zc:(0:Int)<(c:Int):=by omega
       cases hst:(run L k).drop i with
       | nil =>
        have hat:atI k (run L k) i=0:=by
         have h:=zkO L k (run L k) HCh i HI.out;rw [hst] at h;exact h
        have hlen:(run L k).length<aa:=by
         have:=List.drop_eq_nil_iff.1 hst;omega
        have HE:Hid (er L k=42):=by show er L k=_;rw [HE2.out,iP hlen]
        have zt:(((atI k (run L k) i:Nat):Int)==0)=true:=by rw [hat];rfl
        clear hst hat hlen HE2 HCh HPo HHb HFo HAa HOp HNn HI;generalize atI k (run L k) i=ai at *;generalize hI L n.op aa (run L k) i=hi at *;go_wp2_with fail;refine bodyPost_ret (v:=.tuple #[.slice none 0 0,.slice none 0 0,.int .i64 k,.int .i64 42]) (by simp [results,Tryz.results84,go_sem]) rfl ⟨FrV.bad hlt HW4.f.e HE (by decide),HW4.f.b⟩
       | cons x r =>
        have hch:=zkO L k (run L k) HCh i HI.out;rw [hst] at hch;obtain ⟨q1,q2,q3,_⟩:=hch;have hi2:i<(run L k).length:=by
         have:=congrArg List.length hst;rw [List.length_drop,List.length_cons] at this;omega
        have hxi:(run L k)[i]?=some x:=by
         have:=List.getElem?_drop (xs:=run L k) (i:=i) (j:=0);rw [hst] at this
         simpa using this.symm
        obtain ⟨p1,p2,p3,hpx⟩:=HPo x (List.mem_of_getElem? hxi);have hk0:0<k:=by omega
        obtain ⟨g1,g2,rfl,rfl⟩:=HFo hk0;have ha1:atI k (run L k) (i+1)=x.1:=by rw [atI,hxi]
        have hh1:hI L n.op aa (run L k) (i+1)=max (hI L n.op aa (run L k) i) (if i+1=aa/\aa=2/\zdF L x.2.1=n.op then x.2.2 - 1 else x.2.2):=by rw [hI,hxi]
        have hbh:=HHb i;have e1:=HW4.f.o1.cells (g:=g1) rfl x.2.1 _ (zdW p3);have e2:=HW4.f.o2.cells (g:=g2) rfl x.2.1 _ (zoX p3);rw [Addr.add_lit,Nat.zero_add,<-q2] at e1 e2;have hy:L[x.2.1]?=some L[x.2.1]:=gE (by omega);have e3:=(HW4.p x.2.1 _ hy).c0;rw [<-zh3 hy] at e3;have e4:=HW4.x.c0;have zt:(((atI k (run L k) i:Nat):Int)==0)=false:=bF (by omega);have hsub:((atI k (run L k) i:Nat):Int) - 1=(x.2.1:Int):=by omega
        have zx:(0:Int)<=(x.2.1:Int):=by omega
        have zk:(x.2.1:Int)<(k:Int):=by omega
        have zl:(x.2.1:Int)<(L.length:Int):=by omega
        have HI2:Hid (i+1<=(run L k).length):=hi2;have HA1:=hO ha1;have HH1:=hO hh1;clear hst q1 q2 q3 hxi hy ha1 hh1 HE2 HCh HPo HHb HFo HAa HOp HNn HI hi2;generalize hat:atI k (run L k) i=ai at *;generalize hhi:hI L n.op aa (run L k) i=hi at *;clear hat hhi;obtain ⟨x1,x2,x3⟩:=x;simp only at p1 p2 p3 e1 e2 e3 hsub zx zk zl HA1 HH1 hpx;generalize hox:zdF L x2=ox at *;clear hox;have HX1:Hid ((pt L x2).1=x1):=by show (pt L x2).1=x1;rw [<-hpx]
        clear hpx e1;by_cases hg:c=1/\aa=2
        ·have t1:((c:Int)==1)=true:=beq_iff_eq.2 (by omega)
         have t2:((aa:Int)==2)=true:=beq_iff_eq.2 (by omega);by_cases ho:ox=n.op
         ·have HZ:Hid (hI L n.op aa (run L k) (i+1)=max hi (x3 - 1)):=by show hI L n.op aa (run L k) (i+1)=_;rw [HH1.out,iP ⟨by omega,hg.2,ho⟩]
          have t3:(ox==n.op)=true:=beq_iff_eq.2 ho;have hx3:((x3:Int) - 1)=((x3 - 1:Nat):Int):=by omega
          clear ho hg HH1;go_wp2_with fail;go_quiet (fail)
          have HW5:Hid (AtG L w (wr.drewN nq) k (.slice (some ⟨g1,0,none⟩) k k1) (.slice (some ⟨g2,0,none⟩) k k2) Bz n gp op):=HW4.below (below_drewN (bR _ _) _);clear HW4 e2 e3 e4;have e1:=HW5.f.o1.cells (g:=g1) rfl x2 _ (zdW p3);rw [Addr.add_lit,Nat.zero_add,HX1.out] at e1;generalize wr.drewN nq=w5 at *;go_wp2_with fail;go_roundw
          case rel =>
           refine ⟨i+1,c - 1,by omega,by rw [HA1.out],?_,by rw [show ((c:Int) - 1)=((c - 1:Nat):Int) from by omega],HI2,HW5⟩;rw [HZ.out];first | (rw [<-max_i];done) | rw [<-zex]
          case measure=>simp [intOf];omega
         ·have HZ:Hid (hI L n.op aa (run L k) (i+1)=max hi (x3)):=by show hI L n.op aa (run L k) (i+1)=_;rw [HH1.out,iN (fun q=>ho q.2.2)]
          have t3:(ox==n.op)=false:=bF ho;clear ho hg HH1;go_wp2_with fail;go_quiet (fail)
          have HW5:Hid (AtG L w (wr.drewN nq) k (.slice (some ⟨g1,0,none⟩) k k1) (.slice (some ⟨g2,0,none⟩) k k2) Bz n gp op):=HW4.below (below_drewN (bR _ _) _);clear HW4 e2 e3 e4;have e1:=HW5.f.o1.cells (g:=g1) rfl x2 _ (zdW p3);rw [Addr.add_lit,Nat.zero_add,HX1.out] at e1;generalize wr.drewN nq=w5 at *;go_wp2_with fail;go_roundw
          case rel =>
           refine ⟨i+1,c - 1,by omega,by rw [HA1.out],?_,by rw [show ((c:Int) - 1)=((c - 1:Nat):Int) from by omega],HI2,HW5⟩;rw [HZ.out];first | (rw [<-max_i];done) | rw [<-zex]
          case measure=>simp [intOf];omega
        ·by_cases hc1:c=1
         ·have t1:((c:Int)==1)=true:=beq_iff_eq.2 (by omega)
          have t2:((aa:Int)==2)=false:=bF (fun q=>hg ⟨hc1,by omega⟩);have HZ:Hid (hI L n.op aa (run L k) (i+1)=max hi (x3)):=by show hI L n.op aa (run L k) (i+1)=_;rw [HH1.out,iN (fun q=>hg ⟨hc1,q.2.1⟩)]
          clear hg HH1 hc1;go_wp2_with fail;go_quiet (fail)
          have HW5:Hid (AtG L w (wr.drewN nq) k (.slice (some ⟨g1,0,none⟩) k k1) (.slice (some ⟨g2,0,none⟩) k k2) Bz n gp op):=HW4.below (below_drewN (bR _ _) _);clear HW4 e2 e3 e4;have e1:=HW5.f.o1.cells (g:=g1) rfl x2 _ (zdW p3);rw [Addr.add_lit,Nat.zero_add,HX1.out] at e1;generalize wr.drewN nq=w5 at *;go_wp2_with fail;go_roundw
          case rel =>
           refine ⟨i+1,c - 1,by omega,by rw [HA1.out],?_,by rw [show ((c:Int) - 1)=((c - 1:Nat):Int) from by omega],HI2,HW5⟩;rw [HZ.out];first | (rw [<-max_i];done) | rw [<-zex]
          case measure=>simp [intOf];omega
         ·have t1:((c:Int)==1)=false:=bF (by omega)
          have HZ:Hid (hI L n.op aa (run L k) (i+1)=max hi (x3)):=by show hI L n.op aa (run L k) (i+1)=_;rw [HH1.out,iN (fun q=>hc1 (by have:=q.1;omega))]
          clear hg HH1 hc1;go_wp2_with fail;go_quiet (fail)
          have HW5:Hid (AtG L w (wr.drewN nq) k (.slice (some ⟨g1,0,none⟩) k k1) (.slice (some ⟨g2,0,none⟩) k k2) Bz n gp op):=HW4.below (below_drewN (bR _ _) _);clear HW4 e2 e3 e4;have e1:=HW5.f.o1.cells (g:=g1) rfl x2 _ (zdW p3);rw [Addr.add_lit,Nat.zero_add,HX1.out] at e1;generalize wr.drewN nq=w5 at *;go_wp2_with fail;go_roundw
          case rel =>
           refine ⟨i+1,c - 1,by omega,by rw [HA1.out],?_,by rw [show ((c:Int) - 1)=((c - 1:Nat):Int) from by omega],HI2,HW5⟩;rw [HZ.out];first | (rw [<-max_i];done) | rw [<-zex]
          case measure=>simp [intOf];omega
      ·obtain rfl:c=0:=by omega
       obtain rfl:i=aa:=by omega
       have HPt:=(show Hid (pt L k=(atI k (run L k) i,k,hI L n.op i (run L k) i+1)) from by
        show pt L k=_
        have h:=pt_at L k n.op (run L k) (by rw [HAa.out];exact HI.out) (fun x hx=>(HPo x hx).1);rw [HAa.out] at h;rw [<-h];unfold pt;rw [HOp.out])
       have HE3:=(show Hid (er L k=if 60<hI L n.op i (run L k) i+1 then 4 else 0) from by
        show er L k=_
        rw [HE2.out,iN (by have:=HI.out;omega),HPt.out])
       have hbh:=HHb i;have hab:atI k (run L k) i<=k:=by
        have h:=zkO L k (run L k) HCh i HI.out
        cases hd:(run L k).drop i with
        | nil=>rw [hd] at h;have e:atI k (run L k) i=0:=h;omega
        | cons y r=>rw [hd] at h;have:=(HPo y (List.mem_of_mem_drop (by rw [hd];simp))).2.2.1;have:=h.1;omega
       clear HE2 HCh HPo HHb HFo HAa HOp HNn HI;generalize atI k (run L k) i=ai at *;generalize hI L n.op i (run L k) i=hi at *;by_cases hd:60<hi+1
       ·have HE:Hid (er L k=4):=by show er L k=_;rw [HE3.out,iP hd]
        have zd:(60:Int)<(hi:Int)+1:=by omega
        clear HE3 HPt hd;go_wp2_with fail;refine bodyPost_ret (v:=.tuple #[.slice none 0 0,.slice none 0 0,.int .i64 k,.int .i64 4]) (by simp [results,Tryz.results84,go_sem]) rfl ⟨FrV.bad hlt HW4.f.e HE (by decide),HW4.f.b⟩
       ·have HE:=(show Hid (∀j,j<k+1->er L j=0) from fun j hj=>by
         by_cases q:j<k
         ·exact HW4.f.e j q
         ·obtain rfl:j=k:=by omega
          rw [HE3.out,iN hd])
        have zd:¬(60:Int)<(hi:Int)+1:=by omega
        clear HE3 hd;have HF:Hid (AtF L w wr k (.slice A1 k k1) (.slice A2 k k2)):=HW4.f;have hO1:=HW4.f.o1;have hbs:=HW4.f.b.size;clear HW4;go_wp2_with (at_builtin;refine wpList_append_lies _ rfl _ _ 66 rfl w.heap.size 3 i0 (.int .i64 0) 1 8 Tryz.underlying66 hinf hz0 hz1 hz2 rfl (by decide) _ _ _ rfl (hO1.alloc _) ⟨wr.heap.size,0,none⟩ 1 1 [.int .i64 ai] rfl rfl (cell_one_new _ _ _) ?c2 (by decide) ?c3 ?c4 ?c5 (wr.heap.size+1) (by simp) ?_)
        case c2=>first | rfl | (intro u hu;simp at hu;subst hu;rfl)
        case c3=>unfold maxLen;omega
        case c4=>omega
        case c5=>first | omega | (simp;omega)
        intro g cap w6 hown1 hgrow1 hat1 hlt1;have hO2:w6.ownsRow w.heap.size 3 1 (.slice A2 k k2) k (hic L k):=(HF.o2.alloc _).kept hgrow1 (by
         cases hv:(Value.slice A2 k k2).ownBlock with
         | none=>exact .inl rfl
         | some g2=>exact .inr (fun e=>HF.ne g2 e.symm hv))
        have HB6:Hid (Below w.heap.size w w6):=(HF.b.alloc hbs _).grown hgrow1 (by simp;omega) (fun j e=>(HF.o1.lt j e).1);have hb6:=HB6.size;have hs6:wr.heap.size+1<=w6.heap.size:=by have:=hgrow1.size;(try unfold rB at this);rw [sA] at this;exact this
        have HO1:Hid (w6.ownsRow w.heap.size 3 1 (.slice (some ⟨g,0,none⟩) (k+1) cap) (k+1) (bgc L (k+1))):=by rw [zmy,HPt.out];exact hown1
        have HX1:=(show Hid (∀j,(Value.slice A2 k k2).ownBlock=some j->j≠g/\j<w6.heap.size) from fun j hj=>by
         have hlt:=(HF.o2.lt j hj).2;refine ⟨?_,by omega⟩
         rcases hat1 with q | q
         ·rintro rfl
          exact HF.ne _ q hj
         ·omega)
        have HG6:Hid (g<w6.heap.size):=hlt1;clear hown1 hgrow1 hat1 hlt1 hO1 HF;go_wp2_with (at_builtin;refine wpList_append_lies _ rfl _ _ 66 rfl w.heap.size 3 i0 (.int .i64 0) 1 8 Tryz.underlying66 hinf hz0 hz1 hz2 rfl (by decide) _ _ _ rfl (hO2.alloc _) ⟨w6.heap.size,0,none⟩ 1 1 [.int .i64 ((hi:Int)+1)] rfl rfl (cell_one_new _ _ _) ?c2 (by decide) ?c3 ?c4 ?c5 (w6.heap.size+1) (by simp) ?_)
        case c2=>first | rfl | (intro u hu;simp at hu;subst hu;rfl)
        case c3=>unfold maxLen;omega
        case c4=>omega
        case c5=>first | omega | (simp;omega)
        intro g' cap' w7 hown2 hgrow2 hat2 hlt2;have HW7:=(show Hid (AtF L w w7 (k+1) (.slice (some ⟨g,0,none⟩) (k+1) cap) (.slice (some ⟨g',0,none⟩) (k+1) cap')) from by
         refine ⟨(HO1.alloc _).kept hgrow2 (.inr ?_),?_,?_,(HB6.alloc hb6 _).grown hgrow2 (by simp;omega) (fun j e=>(hO2.lt j e).1),HE.out⟩
         ·intro e
          exact (HX1 g e.symm).1 rfl
         ·rw [zmz,HPt.out]
          have hcst:(((hi+1:Nat):Nat):Int)=(hi:Int)+1:=by omega
          show w7.ownsRow _ _ _ _ _ (hic L k++[.int .i64 ((hi+1:Nat):Int)])
          rw [hcst];exact hown2
         ·intro j e1 e2
          have q1:g=j:=Option.some.inj e1;have q2:g'=j:=Option.some.inj e2
          rcases hat2 with q | q
          ·exact (HX1 g' q).1 (by rw [q1,q2])
          ·have:=HG6.out;omega)
        clear hown2 hgrow2 hat2 hlt2 hO2 HX1 HG6 HO1 HB6 HPt HE;go_wp2_with fail;go_roundw
        case rel=>exact ⟨k+1,by omega,by go_num,HW7⟩
        case measure=>simp [intOf];omega
  ·obtain rfl:k=L.length:=by omega
   clear HG HP;go_wp2_with fail;refine bodyPost_ret (v:=.tuple #[u6,u7,.int .i64 0,.int .i64 0]) (by simp [results,Tryz.results84,go_sem]) rfl ⟨.inr ⟨HW.e,_,_,rfl,HW.out⟩,HW.b⟩
theorem zoY {L:List Nd} {m:Nat} (hm:L.length=m+1) (h:∀j,j<L.length->er L j=0):(run L L.length).length=1↔(pt L m).1=0:=by
 have hc:=zgI L L.length (nL _) h;rw [hm] at hc ⊢;rw [zef] at hc ⊢;have h2:=hc.2.2.2
 cases hd:(run L m).drop (arN (zdF L m)) with
 | nil=>rw [hd] at h2;exact ⟨fun _=>h2,fun _=>rfl⟩
 | cons x r =>
  rw [hd] at h2;have:=h2.1
  constructor
  ·intro e;simp at e
  ·intro e;omega
theorem zix (L:List Nd) (Ap:Option Addr) (cp:Nat) (hL:L.length<=140737488355328) (hT:∀n∈L,n.tx.size<=140737488355328) (w:World) (hp:RdN w Ap L) :
  Calls Tryz.prog 52 #[.slice Ap L.length cp] w (rB w (.tuple #[.int .i64 (ck L).1,.int .i64 (ck L).2])):=by
 by_cases hlong:2048<L.length
 ·have HE:Hid (ck L=(0,2)):=zjb hlong
  have z:(2048:Int)<(L.length:Int):=by omega
  clear hT hp;go_enter Tryz.func52,Tryz.ntmps52;go_wp2_with fail;go_ret2
  exact ⟨by rw [HE.out];rfl,bR _ _⟩
 have z:¬(2048:Int)<(L.length:Int):=by omega
 have HF:Hid (∀_:Unit,Cl 84 #[.slice Ap L.length cp] w fun e w'=>FrV w w' L e/\Below w.heap.size w w'):=fun _=>zmA L Ap cp (by omega) hT w hp
 clear hT hp;have HN:Hid (¬2048<L.length):=hlong;clear hlong;go_enter Tryz.func52,Tryz.ntmps52;go_wp2_with fail;refine (HF ()).mono ?_;rintro e w2 ⟨hv,b2⟩;have HB:Hid (Below w.heap.size w w2):=b2;clear HF b2
 rcases hv with ⟨k,hk,h1,h2,rfl⟩ | ⟨h1,v1,v2,rfl,h2⟩
 ·have HE:Hid (ck L=(k,er L k)):=zht HN hk h1 h2
  have t1:(er L k != 0)=true:=by rw [bne,bF h2];rfl
  clear h1 h2 HN;generalize er L k=ek at *;go_wp2_with fail;go_ret2
  exact ⟨by rw [HE.out];rfl,HB.out⟩
 ·have HE:Hid (ck L=if (run L L.length).length=1 then (0,0) else (L.length,42)):=zmU HN h1
  obtain ⟨A1,c1,A2,c2,rfl,rfl,hf⟩:=h2.form;by_cases h0:L.length=0
  ·have HE2:=(show Hid (ck L=(L.length,42)) from by
    show ck L=_
    rw [HE.out,iN];rw [List.eq_nil_of_length_eq_zero h0];simp [run])
   have t0:((L.length:Int)==0)=true:=beq_iff_eq.2 (by omega);clear h1 h2 hf h0 HE HN;go_wp2_with fail;go_ret2
   exact ⟨by rw [HE2.out];rfl,HB.out⟩
  ·obtain ⟨m,hm⟩:∃m,L.length=m+1:=⟨L.length - 1,by omega⟩
   obtain ⟨g1,g2,rfl,rfl⟩:=hf (by omega);have hone:=zoY hm h1;have e1:=h2.o1.cells (g:=g1) rfl m _ (zdW (by omega));rw [Addr.add_lit,Nat.zero_add] at e1;have t0:((L.length:Int)==0)=false:=bF (by omega);have hs:(L.length:Int) - 1=(m:Int):=by omega
   have zm:(0:Int)<=(m:Int):=by omega
   have zl:(m:Int)<(L.length:Int):=by omega
   by_cases hp0:(pt L m).1=0
   ·have HE2:Hid (ck L=(0,0)):=by show ck L=_;rw [HE.out,iP (hone.2 hp0)]
    have t2:(((pt L m).1:Int) != 0)=false:=by rw [hp0];rfl
    clear h1 h2 hf h0 HE HN hm hone hp0;generalize (pt L m).1=q at *;go_wp2_with fail;go_ret2
    exact ⟨by rw [HE2.out];rfl,HB.out⟩
   ·have HE2:Hid (ck L=(L.length,42)):=by show ck L=_;rw [HE.out,iN (fun q=>hp0 (hone.1 q))]
    have t2:(((pt L m).1:Int) != 0)=true:=by rw [bne,bF (by omega)];rfl
    clear h1 h2 hf h0 HE HN hm hone hp0;generalize (pt L m).1=q at *;go_wp2_with fail;go_ret2
    exact ⟨by rw [HE2.out];rfl,HB.out⟩
theorem zkV {W:World} {B n:Nat} {v:Value} {L:List Nd} (h:W.ownsRow B 51 7 v n (ndc L)) (hn:n=L.length):∃A c,v=.slice A L.length c/\RdN W A L:=by
 subst hn;have hc:=h
 rcases h.2 with ⟨rfl,h0⟩ | ⟨g,cap,cur,rfl,_⟩
 ·exact ⟨none,0,by rw [h0],fun hl=>absurd (List.eq_nil_of_length_eq_zero h0) hl⟩
 ·have hc2:W.ownsRow B 51 7 (.slice (some ⟨g,0,none⟩) L.length cap) L.length (ndc L++[]):=by rw [List.append_nil];exact hc
  exact ⟨_,cap,rfl,fun _=>⟨g,0,rfl,(hc.lt g rfl).2,zji hc2⟩⟩
theorem ziy {F:Nat} (hen:∀args w,(callFunc F args).run Tryz.prog w=.ok (.enter F args) w) {ops:Array Oper} {o:Oper} {a:Act} {w:World} {K:Act->World->Prop} {Q:Exit->Act->World->Prop} {E:Prop} (hgd:o.guard=none) (x:Operand) (T:TypeId) (ho:o.op=.call { callee:=.value (.func F),args:=#[x],argTypes:=#[T] }) (v:Value) (hx:a.eval x=v)
  (hc:Calls Tryz.prog F #[v] w fun e w'=>∃r,e=.returned r/\K (a.put o.dst r) w') :
  if Region.wanted o (yielded ops a.tmps)=true then Oper.wp Tryz.prog o a w K Q else E:=by
 have hw:Region.wanted o (yielded ops a.tmps)=true:=by simp [Region.wanted,hgd]
 rw [iP hw];have he:(execOp a.eval o).run Tryz.prog w=.ok (.enter F #[v]) w:=by
  unfold execOp;simp [ho,go_sem,invoke,hen]
  rw [<-hx]
  cases x <;> simp [Act.eval]
 unfold Oper.wp;rw [he,Oper.upon_enter];refine hc.mono ?_;rintro e w' ⟨r,rfl,hk⟩;exact hk
end Go.Proofs.YtkihfkcmcdiajaaGreatDoor.T
namespace Go.Proofs.YtkihfkcmcdiajaaGreatDoor.N
open Go.RowKit
theorem zhT (args:Array Value) (w:World):(callFunc 49 args).run Tryz.prog w=.ok (.enter 49 args) w:=enters_of Tryz.func49 (by kernel_rfl) rfl args w
theorem zne {p:Prop} (h:p):Hid p:=h
theorem ziz {F:Nat} (hen:∀args w,(callFunc F args).run Tryz.prog w=.ok (.enter F args) w) {ops:Array Oper} {o:Oper} {a:Act} {w:World} {K:Act->World->Prop} {Q:Exit->Act->World->Prop} {E:Prop} (hgd:o.guard=none) (x:Operand) (T:TypeId) (ho:o.op=.call { callee:=.value (.func F),args:=#[x],argTypes:=#[T] }) (v:Value) (hx:a.eval x=v)
  (hc:Calls Tryz.prog F #[v] w fun e w'=>∃ch,e=.panicked ch/\Q (.panic ch) a w') (_:Hid False->K (a.put o.dst (.slice none 0 0)) w) :
  if Region.wanted o (yielded ops a.tmps)=true then Oper.wp Tryz.prog o a w K Q else E:=by
 have hw:Region.wanted o (yielded ops a.tmps)=true:=by simp [Region.wanted,hgd]
 rw [iP hw];have he:(execOp a.eval o).run Tryz.prog w=.ok (.enter F #[v]) w:=by
  unfold execOp;simp [ho,go_sem,invoke,hen]
  rw [<-hx]
  cases x <;> simp [Act.eval]
 unfold Oper.wp;rw [he,Oper.upon_enter];refine hc.mono ?_;rintro e w' ⟨r,rfl,hk⟩;exact hk
theorem Fr.drew {W W':World} {b:Nat} {v v':Value} (h:Fr W.drew W' b v v'):Fr W W' b v v':=(Fr.below b v (bR _ _).drew).trans h
theorem zel {E:PE} {z:Nat} {w0 W:World} {b:Nat} {tv:Value} {i d:Nat} {v:Value} {L:List Nd} (h:RS E z w0 W b tv i d v L) (hlt:i<E.l.length) (hz:E.l.length<=1000000) :
  Calls Tryz.prog 80 #[.pointer (some ⟨b,0,none⟩),.int .i64 (kdA E i)] W fun e W'=>e=.returned (.tuple #[])/\RS E z w0 W' b tv (i+1) d v L/\Fr W W' b (.slice none 0 0) (.slice none 0 0):=by
 obtain ⟨t,ht,hk,_,_⟩:=zav E z h.hi;have HH:Hid (∀_:Unit,Cl 46 #[.pointer (some ⟨b,0,none⟩)] W (rB W (.agg #[.int .i64 t.kd,.int .i64 t.nn,.int .i64 t.fr,.int .i64 t.en,.string t.tx,.int .u64 t.s0,.int .u64 t.s1,.int .u64 t.s2,.int .u64 t.s3]))):=fun _=>zay h t ht
 have H:=hO h;have fl0:=ziI;rw [<-hk];have t1:(t.kd != t.kd)=false:=by simp
 obtain ⟨j,hj⟩:∃j,j=i+1:=⟨_,rfl⟩;have u1:IntKind.i64.wrap ((i:Int)+1)=(j:Int):=by rw [wI];omega
 have hj2:j<=E.l.length:=by omega
 rw [<-hj];clear h ht hk hj;go_enter Tryz.func80,Tryz.ntmps80;go_wp2_with fail;refine (HH ()).mono ?_;rintro e w1 ⟨rfl,hb⟩;have H1:=hO (H.later hb);have HF:Hid (Fr W w1 b (.slice none 0 0) (.slice none 0 0)):=Fr.below b _ hb;clear hb HH H;obtain ⟨k0,k1,k2,k3⟩:=H1.x.cl;have f1':=H1.x.fz 1;go_wp2_with fail;go_end0
 exact ⟨rfl,H1.s1 hj2,HF.trans (Fr.set _ _ _ _ _)⟩
theorem rule_x {E:PE} (hE:OkE E) {z:Nat} {w0:World} (hv:R.VB w0) {b:Nat} {tv:Value} {i:Nat} {W:World} {v:Value} {L:List Nd} (h:RS E z w0 W b tv i 0 v L) (hr:ruB E i=true) (q:Nat×Int) (hq:exN E (i+2)=.inr q):Calls Tryz.prog 48 #[.pointer (some ⟨b,0,none⟩)] W fun e W'=>e=pnc (plA E z q.1) q.2/\Below w0.heap.size w0 W':=by
 have hz:=hE.z;have hlt2:=zeR hr;have hr2:=hr;unfold ruB at hr2;simp only [Bool.and_eq_true,beq_iff_eq] at hr2;obtain ⟨t,ht,hk,hpl,hta⟩:=zav E z h.hi;obtain rfl:t=tkA E i:=hta (by omega);have HH:Hid (∀W,RS E z w0 W b tv i 0 v L->Cl 46 #[.pointer (some ⟨b,0,none⟩)] W (rB W (.agg #[.int .i64 1,.int .i64 (tkA E i).nn,.int .i64 (plA E z i),.int .i64 (tkA E i).en,.string (tkA E i).tx,.int .u64 (tkA E i).s0,.int .u64 (tkA E i).s1,.int .u64 (tkA E i).s2,.int .u64 (tkA E i).s3]))):=fun W h=>by
  have:=zay h _ ht;rw [hpl,hk,hr2.1] at this;exact this
 have HP1:Hid (∀W,RS E z w0 W b tv i 0 v L->Cl 80 #[.pointer (some ⟨b,0,none⟩),.int .i64 1] W fun e W'=>e=.returned (.tuple #[])/\RS E z w0 W' b tv (i+1) 0 v L/\Fr W W' b (.slice none 0 0) (.slice none 0 0)):=fun W h=>by
  have:=zel h (by omega) hz;rw [hr2.1] at this;exact this
 have HP2:Hid (∀W,RS E z w0 W b tv (i+1) 0 v L->Cl 80 #[.pointer (some ⟨b,0,none⟩),.int .i64 6] W fun e W'=>e=.returned (.tuple #[])/\RS E z w0 W' b tv ((i+1)+1) 0 v L/\Fr W W' b (.slice none 0 0) (.slice none 0 0)):=fun W h=>by
  have:=zel h (by omega) hz;rw [hr2.2] at this;exact this
 have HP:Hid (PX (W.alloc (.cells #[.int .i64 0,.string ⟨#[]⟩,.slice none 0 0] 62)) W.heap.size (.int .i64 0) (.string ⟨#[]⟩) (.slice none 0 0)):=⟨heap_alloc_new W _⟩;have H:Hid (RS E z w0 (W.alloc (.cells #[.int .i64 0,.string ⟨#[]⟩,.slice none 0 0] 62)) b tv i 0 v L):=h.later (zaa _ _);have HF:Hid (Fr W (W.alloc (.cells #[.int .i64 0,.string ⟨#[]⟩,.slice none 0 0] 62)) b (.slice none 0 0) (.slice none 0 0)):=Fr.below b _ (zaa _ _);have hnb:=h.x.lt;have hw0:=h.bl.size;have HBo:Hid (∀W,RS E z w0 W b tv (i+1+1) 0 v L->Cl 49 #[.pointer (some ⟨b,0,none⟩)] W fun e W'=>e=pnc (plA E z q.1) q.2/\Below w0.heap.size w0 W'):=fun W h=>zkv hE hv h q hq
 clear h ht hk hpl hta hE hv hq hr hr2;generalize plA E z i=p0 at *;generalize tkA E i=t at *;go_enter Tryz.func48,Tryz.ntmps48;go_wp2_with fail;generalize W.alloc (.cells #[.int .i64 0,.string ⟨#[]⟩,.slice none 0 0] 62)=w1 at *;refine (HH _ H.out).mono ?_;rintro e w2 ⟨rfl,hb⟩;have H2:Hid (RS E z w0 (w2.alloc (.cells #[.int .i64 1,.int .i64 t.nn,.int .i64 p0,.int .i64 t.en,.string t.tx,.int .u64 t.s0,.int .u64 t.s1,.int .u64 t.s2,.int .u64 t.s3] 79)) b tv i 0 v L):=(H.later hb).later (zaa _ _);have HF2:Hid (Fr W (w2.alloc (.cells #[.int .i64 1,.int .i64 t.nn,.int .i64 p0,.int .i64 t.en,.string t.tx,.int .u64 t.s0,.int .u64 t.s1,.int .u64 t.s2,.int .u64 t.s3] 79)) b (.slice none 0 0) (.slice none 0 0)):=HF.trans ((Fr.below b _ hb).trans (Fr.below b _ (zaa _ _)));have HP2':Hid (PX (w2.alloc (.cells #[.int .i64 1,.int .i64 t.nn,.int .i64 p0,.int .i64 t.en,.string t.tx,.int .u64 t.s0,.int .u64 t.s1,.int .u64 t.s2,.int .u64 t.s3] 79)) W.heap.size (.int .i64 0) (.string ⟨#[]⟩) (.slice none 0 0)):=(HP.same (hb.block _ HP.lt)).same ((zaa w2 _).block _ (nM HP.lt hb.size));have HT2:Hid (TX (w2.alloc (.cells #[.int .i64 1,.int .i64 t.nn,.int .i64 p0,.int .i64 t.en,.string t.tx,.int .u64 t.s0,.int .u64 t.s1,.int .u64 t.s2,.int .u64 t.s3] 79)) w2.heap.size ⟨1,t.nn,p0,t.en,t.tx,t.s0,t.s1,t.s2,t.s3⟩):=⟨heap_alloc_new w2 _⟩;have hw2:W.heap.size<w2.heap.size:=nM HP.lt hb.size;clear hb HH H HF HP
 go_wp2_with fail;generalize w2.alloc (.cells #[.int .i64 1,.int .i64 t.nn,.int .i64 p0,.int .i64 t.en,.string t.tx,.int .u64 t.s0,.int .u64 t.s1,.int .u64 t.s2,.int .u64 t.s3] 79)=w3 at *;refine (HP1 _ H2.out).mono ?_;rintro e w4 ⟨rfl,h4,hf4⟩;have H4:=hO h4;have HF4:Hid (Fr W w4 b (.slice none 0 0) (.slice none 0 0)):=HF2.trans hf4;have HP4:=hO (HP2'.same (hf4.block _ HP2'.lt (by omega) (by intro q;cases q)));have HT4:=hO (zeF HT2 hf4 (by omega) (by intro q;cases q));clear h4 hf4 H2 HF2 HP2' HT2 HP1;go_wp2_with fail;refine (HP2 _ H4.out).mono ?_;rintro e w5 ⟨rfl,h5,hf5⟩;have H5:=hO h5;have HF5:Hid (Fr W w5 b (.slice none 0 0) (.slice none 0 0)):=HF4.trans hf5;have HP5:=hO (HP4.same (hf5.block _ HP4.lt (by omega) (by intro q;cases q)));have HT5:=hO (zeF HT4 hf5 (by omega) (by intro q;cases q));clear h5 hf5 H4 HF4 HP4 HT4 HP2;have HD:Hid (RS E z w0 w5.drew b tv (i+1+1) 0 v L):=H5.later (bR _ _).drew;obtain ⟨c0,c1,c2,c3,c4,c5,c6,c7,c8⟩:=HT5.cells;go_wp2_with fail;have HQ:Hid (∀act:Act,act.defers=[]->Cl 49 #[.pointer (some ⟨b,0,none⟩)] w5.drew fun e w'=>∃ch,e=.panicked ch/\bodyPost Tryz.prog Tryz.f48 (fun e W'=>e=pnc (plA E z q.1) q.2/\Below w0.heap.size w0 W') (.panic ch) act w'):=fun act hd=>(HBo _ HD.out).mono (by
  rintro e wA ⟨rfl,hb⟩;exact ⟨_,rfl,zah hd ⟨rfl,hb⟩⟩)
 obtain ⟨y0,y1,y2⟩:=HP5.cl;have g0:=HP5.fz 0;have g1:=HP5.fz 1;have g2:=HP5.fz 2;go_region_law (refine ziz zhT rfl _ _ (by rfl) (.pointer (some ⟨b,0,none⟩)) (by rfl) ?_ ?_;exact HQ.out _ rfl;intro hf)
 all_goals exact hf.out.elim
theorem zoZ {E:PE} (hE:OkE E) {z:Nat} {w0:World} (hv:R.VB w0) {b:Nat} {tv:Value} {i:Nat} {W:World} {v:Value} {L:List Nd} (h:RS E z w0 W b tv i 0 v L) (hr:ruB E i=true) (a:Nat) (ns:List Nd) (hq:exN E (i+2)=.inl (a,ns)):Calls Tryz.prog 48 #[.pointer (some ⟨b,0,none⟩)] W fun e W'=>∃v',e=.returned (.agg #[.int .i64 (plA E z i),.string (tkA E i).tx,v'])/\RS E z w0 W' b tv a 0 v' ns/\Fr W W' b (.slice none 0 0) v':=by
 have hz:=hE.z;have hlt2:=zeR hr;have hr2:=hr;unfold ruB at hr2;simp only [Bool.and_eq_true,beq_iff_eq] at hr2;obtain ⟨t,ht,hk,hpl,hta⟩:=zav E z h.hi;obtain rfl:t=tkA E i:=hta (by omega);have HH:Hid (∀W,RS E z w0 W b tv i 0 v L->Cl 46 #[.pointer (some ⟨b,0,none⟩)] W (rB W (.agg #[.int .i64 1,.int .i64 (tkA E i).nn,.int .i64 (plA E z i),.int .i64 (tkA E i).en,.string (tkA E i).tx,.int .u64 (tkA E i).s0,.int .u64 (tkA E i).s1,.int .u64 (tkA E i).s2,.int .u64 (tkA E i).s3]))):=fun W h=>by
  have:=zay h _ ht;rw [hpl,hk,hr2.1] at this;exact this
 have HP1:Hid (∀W,RS E z w0 W b tv i 0 v L->Cl 80 #[.pointer (some ⟨b,0,none⟩),.int .i64 1] W fun e W'=>e=.returned (.tuple #[])/\RS E z w0 W' b tv (i+1) 0 v L/\Fr W W' b (.slice none 0 0) (.slice none 0 0)):=fun W h=>by
  have:=zel h (by omega) hz;rw [hr2.1] at this;exact this
 have HP2:Hid (∀W,RS E z w0 W b tv (i+1) 0 v L->Cl 80 #[.pointer (some ⟨b,0,none⟩),.int .i64 6] W fun e W'=>e=.returned (.tuple #[])/\RS E z w0 W' b tv ((i+1)+1) 0 v L/\Fr W W' b (.slice none 0 0) (.slice none 0 0)):=fun W h=>by
  have:=zel h (by omega) hz;rw [hr2.2] at this;exact this
 have HP:Hid (PX (W.alloc (.cells #[.int .i64 0,.string ⟨#[]⟩,.slice none 0 0] 62)) W.heap.size (.int .i64 0) (.string ⟨#[]⟩) (.slice none 0 0)):=⟨heap_alloc_new W _⟩;have H:Hid (RS E z w0 (W.alloc (.cells #[.int .i64 0,.string ⟨#[]⟩,.slice none 0 0] 62)) b tv i 0 v L):=h.later (zaa _ _);have HF:Hid (Fr W (W.alloc (.cells #[.int .i64 0,.string ⟨#[]⟩,.slice none 0 0] 62)) b (.slice none 0 0) (.slice none 0 0)):=Fr.below b _ (zaa _ _);have hnb:=h.x.lt;have hw0:=h.bl.size;have HBo:Hid (∀W,RS E z w0 W b tv (i+1+1) 0 v L->Cl 49 #[.pointer (some ⟨b,0,none⟩)] W fun e W'=>∃v',e=.returned v'/\RS E z w0 W' b tv a 0 v' ns/\Fr W W' b (.slice none 0 0) v'):=fun W h=>zg8 hE hv h a ns hq
 clear h ht hk hpl hta hE hv hq hr hr2;generalize plA E z i=p0 at *;generalize tkA E i=t at *;go_enter Tryz.func48,Tryz.ntmps48;go_wp2_with fail;generalize W.alloc (.cells #[.int .i64 0,.string ⟨#[]⟩,.slice none 0 0] 62)=w1 at *;refine (HH _ H.out).mono ?_;rintro e w2 ⟨rfl,hb⟩;have H2:Hid (RS E z w0 (w2.alloc (.cells #[.int .i64 1,.int .i64 t.nn,.int .i64 p0,.int .i64 t.en,.string t.tx,.int .u64 t.s0,.int .u64 t.s1,.int .u64 t.s2,.int .u64 t.s3] 79)) b tv i 0 v L):=(H.later hb).later (zaa _ _);have HF2:Hid (Fr W (w2.alloc (.cells #[.int .i64 1,.int .i64 t.nn,.int .i64 p0,.int .i64 t.en,.string t.tx,.int .u64 t.s0,.int .u64 t.s1,.int .u64 t.s2,.int .u64 t.s3] 79)) b (.slice none 0 0) (.slice none 0 0)):=HF.trans ((Fr.below b _ hb).trans (Fr.below b _ (zaa _ _)));have HP2':Hid (PX (w2.alloc (.cells #[.int .i64 1,.int .i64 t.nn,.int .i64 p0,.int .i64 t.en,.string t.tx,.int .u64 t.s0,.int .u64 t.s1,.int .u64 t.s2,.int .u64 t.s3] 79)) W.heap.size (.int .i64 0) (.string ⟨#[]⟩) (.slice none 0 0)):=(HP.same (hb.block _ HP.lt)).same ((zaa w2 _).block _ (nM HP.lt hb.size));have HT2:Hid (TX (w2.alloc (.cells #[.int .i64 1,.int .i64 t.nn,.int .i64 p0,.int .i64 t.en,.string t.tx,.int .u64 t.s0,.int .u64 t.s1,.int .u64 t.s2,.int .u64 t.s3] 79)) w2.heap.size ⟨1,t.nn,p0,t.en,t.tx,t.s0,t.s1,t.s2,t.s3⟩):=⟨heap_alloc_new w2 _⟩;have hw2:W.heap.size<w2.heap.size:=nM HP.lt hb.size;clear hb HH H HF HP
 go_wp2_with fail;generalize w2.alloc (.cells #[.int .i64 1,.int .i64 t.nn,.int .i64 p0,.int .i64 t.en,.string t.tx,.int .u64 t.s0,.int .u64 t.s1,.int .u64 t.s2,.int .u64 t.s3] 79)=w3 at *;refine (HP1 _ H2.out).mono ?_;rintro e w4 ⟨rfl,h4,hf4⟩;have H4:=hO h4;have HF4:Hid (Fr W w4 b (.slice none 0 0) (.slice none 0 0)):=HF2.trans hf4;have HP4:=hO (HP2'.same (hf4.block _ HP2'.lt (by omega) (by intro q;cases q)));have HT4:=hO (zeF HT2 hf4 (by omega) (by intro q;cases q));clear h4 hf4 H2 HF2 HP2' HT2 HP1;go_wp2_with fail;refine (HP2 _ H4.out).mono ?_;rintro e w5 ⟨rfl,h5,hf5⟩;have H5:=hO h5;have HF5:Hid (Fr W w5 b (.slice none 0 0) (.slice none 0 0)):=HF4.trans hf5;have HP5:=hO (HP4.same (hf5.block _ HP4.lt (by omega) (by intro q;cases q)));have HT5:=hO (zeF HT4 hf5 (by omega) (by intro q;cases q));clear h5 hf5 H4 HF4 HP4 HT4 HP2;have HD:Hid (RS E z w0 w5.drew b tv (i+1+1) 0 v L):=H5.later (bR _ _).drew;obtain ⟨c0,c1,c2,c3,c4,c5,c6,c7,c8⟩:=HT5.cells;go_wp2_with fail;have HA:=(show Hid (∀wA A3 n3,RS E z w0 wA b tv a 0 (.slice A3 ns.length n3) ns->Fr w5.drew wA b (.slice none 0 0) (.slice A3 ns.length n3)->PX wA W.heap.size (.int .i64 0) (.string ⟨#[]⟩) (.slice none 0 0)/\TX wA w2.heap.size ⟨1,t.nn,p0,t.en,t.tx,t.s0,t.s1,t.s2,t.s3⟩/\Fr W wA b (.slice none 0 0) (.slice A3 ns.length n3)) from fun wA A3 n3 hA hf=>by
  have hf:=hf.drew;exact ⟨HP5.same (hf.block _ HP5.lt (by omega) (by intro q;cases q)),HT5.same (hf.block _ HT5.lt (by omega) (by intro q;cases q)),HF5.trans hf⟩)
 go_region_law (refine T.ziy zhT rfl _ _ (by rfl) (.pointer (some ⟨b,0,none⟩)) (by rfl) ?_;with_reducible refine (HBo.out _ HD.out).mono ?_;rintro e wA ⟨v6,rfl,h6,hf6⟩;obtain ⟨A3,n3,rfl⟩:=zag h6.o;refine ⟨_,rfl,?_⟩;have HY:=zne (HA.out wA A3 n3 h6 hf6);have H6:=zne h6;obtain ⟨y0,y1,y2⟩:=HY.out.1.cl;have g0:=HY.out.1.fz 0;have g1:=HY.out.1.fz 1;have g2:=HY.out.1.fz 2;obtain ⟨d0,d1,d2,d3,d4,d5,d6,d7,d8⟩:=HY.out.2.1.cells)
 all_goals
  clear c0 c1 c2 c3 c4 c5 c6 c7 c8 d0 d1 d2 d3 d4 d5 d6 d7 d8 y0 y1 y2 g0 g1 g2;go_wp2_with fail;refine znd rfl rfl rfl (znc HY.1 (.int .i64 p0) (.string t.tx) (.slice A3 ns.length n3)) ?_;exact ⟨_,rfl,H6.st3 HY.1 hw0 _ _ _,HY.2.2.st3 (nL _) _ _ _⟩
theorem zo0 {E:PE} {z:Nat} {w0:World} {b:Nat} {tv:Value} {i:Nat} {W:World} {v:Value} {L:List Nd} (h:RS E z w0 W b tv i 0 v L) (h1:¬kdA E i=1):Calls Tryz.prog 48 #[.pointer (some ⟨b,0,none⟩)] W fun e W'=>e=pnc (plA E z i) 60/\Below w0.heap.size w0 W':=by
 obtain ⟨t,ht,hk,hpl,_⟩:=zav E z h.hi;have HH:Hid (∀W,RS E z w0 W b tv i 0 v L->Cl 46 #[.pointer (some ⟨b,0,none⟩)] W (rB W (.agg #[.int .i64 t.kd,.int .i64 t.nn,.int .i64 t.fr,.int .i64 t.en,.string t.tx,.int .u64 t.s0,.int .u64 t.s1,.int .u64 t.s2,.int .u64 t.s3]))):=fun W h=>zay h _ ht
 have HP1:Hid (∀W,RS E z w0 W b tv i 0 v L->Cl 80 #[.pointer (some ⟨b,0,none⟩),.int .i64 1] W fun e W'=>e=pnc (plA E z i) 60/\Below w0.heap.size w0 W'):=fun W h=>zjj h 1 h1
 have H:Hid (RS E z w0 (W.alloc (.cells #[.int .i64 0,.string ⟨#[]⟩,.slice none 0 0] 62)) b tv i 0 v L):=h.later (zaa _ _);clear h ht hk hpl h1;go_enter Tryz.func48,Tryz.ntmps48;go_wp2_with fail;generalize W.alloc (.cells #[.int .i64 0,.string ⟨#[]⟩,.slice none 0 0] 62)=w1 at *;refine (HH _ H.out).mono ?_;rintro e w2 ⟨rfl,hb⟩;have H2:Hid (RS E z w0 (w2.alloc (.cells #[.int .i64 t.kd,.int .i64 t.nn,.int .i64 t.fr,.int .i64 t.en,.string t.tx,.int .u64 t.s0,.int .u64 t.s1,.int .u64 t.s2,.int .u64 t.s3] 79)) b tv i 0 v L):=(H.later hb).later (zaa _ _);clear hb HH H;go_wp2_with fail;refine (HP1 _ H2.out).mono ?_;rintro e w4 ⟨rfl,hb⟩;exact zah rfl ⟨rfl,hb⟩
theorem Tryz.info62:(Tryz.prog.info? 62).map (fun i=>(i.zero,i.size,i.bytes))=some (some (.agg #[.int .i64 0,.string ⟨#[]⟩,.slice none 0 0]),3,48):=by kernel_rfl
def plV (E:PE) (z:Nat) (x:Rl×Value):List Value:=[.int .i64 (plA E z x.1.1),.string x.1.2.1,x.2]
def plc (E:PE) (z:Nat) (l:List (Rl×Value)):List Value:=l.flatMap (plV E z)
theorem ziA (E:PE) (z:Nat) (a b:List (Rl×Value)):plc E z (a++b)=plc E z a++plc E z b:=List.flatMap_append
theorem zkW (E:PE) (z:Nat) (x:Rl×Value):plc E z [x]=plV E z x:=by unfold plc;rw [List.flatMap_cons,List.flatMap_nil,List.append_nil]
structure Bds (w0 W:World) (ov:List (Rl×Value)):Prop where
 e:∀x∈ov,W.ownsRow w0.heap.size 51 7 x.2 x.1.2.2.length (T.ndc x.1.2.2)
 ap:ov.Pairwise fun x y=>∀k,x.2.ownBlock=some k->y.2.ownBlock≠some k
theorem Bds.same {w0 W W':World} {ov:List (Rl×Value)} (h:Bds w0 W ov) (hk:∀x∈ov,∀k,x.2.ownBlock=some k->W'.heap[k]?=W.heap[k]?):Bds w0 W' ov:=⟨fun x hx=>zal (h.e x hx) (hk x hx),h.ap⟩
theorem Bds.later {w0 W W':World} {ov:List (Rl×Value)} (h:Bds w0 W ov) (hb:Below W.heap.size W W'):Bds w0 W' ov:=h.same fun x hx k hk=>hb.block k ((h.e x hx).lt k hk).2
theorem Bds.grow {w0 W W':World} {ov:List (Rl×Value)} {B e s n:Nat} {u:Value} {xs:List Value} (h:Bds w0 W ov) (hg:W.grownBy W' u.ownBlock) (ho:W.ownsRow B e s u n xs) (he:e≠51):Bds w0 W' ov:=h.same fun x hx k hk=>hg.block k ((h.e x hx).lt k hk).2 (fun q=>zbi ho (h.e x hx) he q.symm hk)
theorem Bds.push {w0 W:World} {ov:List (Rl×Value)} (h:Bds w0 W ov) (x:Rl×Value) (hx:W.ownsRow w0.heap.size 51 7 x.2 x.1.2.2.length (T.ndc x.1.2.2)) (hn:∀y∈ov,∀k,y.2.ownBlock=some k->x.2.ownBlock≠some k):Bds w0 W (ov++[x]) :=
 ⟨fun y hy=>by
  rcases List.mem_append.1 hy with q | q
  ·exact h.e y q
  ·rw [List.mem_singleton.1 q];exact hx,List.pairwise_append.2 ⟨h.ap,List.pairwise_singleton _ _,fun y hy u hu=>by rw [List.mem_singleton.1 hu];exact hn y hy⟩⟩
theorem RS.gr {E:PE} {z:Nat} {w0 W W':World} {b:Nat} {tv:Value} {i d:Nat} {v:Value} {L:List Nd} {u:Value} {n:Nat} {xs:List Value} (h:RS E z w0 W b tv i d v L) (ho:W.ownsRow w0.heap.size 62 3 u n xs) (hg:W.grownBy W' u.ownBlock):RS E z w0 W' b tv i d v L :=
 ⟨h.bl.grown hg h.bl.size (fun k e=>(ho.lt k e).1),h.lo,h.x.same (hg.block b h.x.lt (fun e=>h.x.ne ho (by decide) e.symm rfl)),zal h.t fun k hk=>hg.block k (h.t.lt k hk).2 (fun e=>zbi h.t ho (by decide) hk e.symm),zal h.o fun k hk=>hg.block k (h.o.lt k hk).2 (fun e=>zbi h.o ho (by decide) hk e.symm),h.hi,h.hd⟩
structure AtR (E:PE) (z:Nat) (w0 W:World) (b:Nat) (tv:Value) (a:Nat) (v:Value) (L:List Nd) (u:Value) (ov:List (Rl×Value)):Prop where
 s:RS E z w0 W b tv a 0 v L
 o:W.ownsRow w0.heap.size 62 3 u ov.length (plc E z ov)
 bd:Bds w0 W ov
 n:ov.length<=a
 nm:kdA E a=1->ruB E a=true
theorem AtR.later {E:PE} {z:Nat} {w0 W W':World} {b:Nat} {tv:Value} {a:Nat} {v:Value} {L:List Nd} {u:Value} {ov:List (Rl×Value)} (h:AtR E z w0 W b tv a v L u ov) (hb:Below W.heap.size W W'):AtR E z w0 W' b tv a v L u ov:=⟨h.s.later hb,zi6 h.o hb,h.bd.later hb,h.n,h.nm⟩
theorem AtR.read {E:PE} {z:Nat} {w0 W W':World} {b:Nat} {tv:Value} {a:Nat} {v v':Value} {L:List Nd} {u:Value} {ov:List (Rl×Value)} (h:AtR E z w0 W b tv a v L u ov) (hf:Fr W W' b (.slice none 0 0) v'):W'.ownsRow w0.heap.size 62 3 u ov.length (plc E z ov)/\Bds w0 W' ov/\∀y∈ov,∀k,y.2.ownBlock=some k->v'.ownBlock≠some k :=
 ⟨zal h.o fun k hk=>hf.block k (h.o.lt k hk).2 (h.s.x.ne h.o (by decide) hk) (by intro q;cases q),h.bd.same fun x hx k hk=>hf.block k ((h.bd.e x hx).lt k hk).2 (h.s.x.ne (h.bd.e x hx) (by decide) hk) (by intro q;cases q),fun y hy k hk q=>by
  rcases hf.own k q with r | r
  ·cases r
  ·have:=((h.bd.e y hy).lt k hk).2
   omega⟩
def RlV (E:PE) (z:Nat) (w0:World) (r:Sum (List Rl) (Nat×Int)) (e:Ending) (W':World):Prop:=match r with
 | .inr q=>e=pnc (plA E z q.1) q.2/\Below w0.heap.size w0 W'
 | .inl rs=>∃u ov,e=.returned u/\W'.ownsRow w0.heap.size 62 3 u ov.length (plc E z ov)/\Bds w0 W' ov/\ov.map (·.1)=rs/\Below w0.heap.size w0 W'
theorem zkX {E:PE} (hE:OkE E) (hk0:∀a,a<E.l.length->¬kdA E a=0) {z:Nat} {w0:World} (hv:R.VB w0) {b:Nat} {tv:Value} {W:World} (h:RS E z w0 W b tv 0 0 (.slice none 0 0) []) (hr0:ruB E 0=true):Calls Tryz.prog 25 #[.pointer (some ⟨b,0,none⟩)] W fun e W'=>RlV E z w0 (rdN E) e W':=by
 have hlen:=hE.len;obtain ⟨i0,hinf,hz0,hz1,hz2⟩:=info_parts Tryz.info62;have HE:=hO hE;have HK:=hO hk0;have HVB:=hO hv;have HA:Hid (AtR E z w0 W b tv 0 (.slice none 0 0) [] (.slice none 0 0) []):=⟨h,World.ownsRow_nil _ _ _ _,⟨fun x hx=>(by cases hx),List.Pairwise.nil⟩,nL _,fun _=>hr0⟩;have HR0:Hid (rdN E=rlG (exN E) E (E.l.length+1) 0 (([]:List (Rl×Value)).map (·.1))):=by
  show rdN E=_
  unfold rdN;rw [iP hr0];rfl
 generalize rdN E=R0 at *;clear h hE hk0 hv hr0;go_enter Tryz.func25,Tryz.ntmps25;go_wp2_with fail;go_loopw [3] (fun u wr=>∃(a:Nat) (v:Value) (L:List Nd) (ov:List (Rl×Value)) (f:Nat),E.l.length<f+a/\Hid (AtR E z w0 wr b tv a v L u ov)/\Hid (R0=rlG (exN E) E f a (ov.map (·.1)))) (fun _ wr=>E.l.length - nxt b wr)
 case atStart=>exact ⟨0,_,_,_,_,by omega,HA,HR0⟩
 case round =>
  obtain ⟨a,v,L,ov,f,hfa,HW,HR⟩:=hrel;clear HA HR0;have ha:=HW.s.hi;obtain ⟨f,rfl⟩:∃g,f=g+1:=⟨f - 1,by omega⟩;obtain ⟨t,ht,hk,hpl,hta⟩:=zav E z ha;clear hta;have HH:Hid (∀_:Unit,Cl 46 #[.pointer (some ⟨b,0,none⟩)] wr (rB wr (.agg #[.int .i64 t.kd,.int .i64 t.nn,.int .i64 t.fr,.int .i64 t.en,.string t.tx,.int .u64 t.s0,.int .u64 t.s1,.int .u64 t.s2,.int .u64 t.s3]))):=fun _=>zay HW.s _ ht
  have fl0:=ziI;have HG:Hid (R0=if a<E.l.length then (if ruB E a=true then (match exN E (a+2) with
   | .inr q=>.inr q
   | .inl p=>rlG (exN E) E f p.1 (ov.map (·.1)++[(a,(tkA E a).tx,p.2)])) else .inr (a,60)) else .inl (ov.map (·.1))):=by
   show R0=_
   rw [HR.out,rlG]
   all_goals
    split
    ·split
     ·cases exN E (a+2) <;> rfl
     ·rfl
    ·rfl
  by_cases hlt:a<E.l.length
  ·have t1:(t.kd != 0)=true:=by rw [hk];simpa using HK a hlt
   by_cases hru:ruB E a=true
   ·cases hx:exN E (a+2) with
    | inr q =>
     have HV:Hid (R0=.inr q):=by
      show R0=_
      rw [HG.out,iP hlt,iP hru,hx]
     have HRu:Hid (∀W,AtR E z w0 W b tv a v L u3 ov->Cl 48 #[.pointer (some ⟨b,0,none⟩)] W fun e W'=>e=pnc (plA E z q.1) q.2/\Below w0.heap.size w0 W'):=fun W h=>rule_x HE.out HVB h.s hru q hx
     clear HR HG ht hk hpl hru hx;go_wp2_with fail;refine (HH ()).mono ?_;rintro e w1 ⟨rfl,hb⟩;have H1:=hO (HW.later hb);clear hb HH;go_wp2_with fail;refine (HRu _ H1.out).mono ?_;rintro e w2 ⟨rfl,hb⟩;exact zah (P:=Tryz.prog) (fn:=Tryz.f25) rfl (by show RlV E z w0 R0 _ _;rw [HV.out];exact ⟨rfl,hb⟩)
    | inl p =>
     obtain ⟨a2,ns⟩:=p;have hadv:=zer (zeR hru) hx;have hnm:=fun hq=>zow (E:=E) hx hq
     have HV:Hid (R0=rlG (exN E) E f a2 (ov.map (·.1)++[(a,(tkA E a).tx,ns)])):=by
      show R0=_
      rw [HG.out,iP hlt,iP hru,hx]
     have HRu:Hid (∀W,AtR E z w0 W b tv a v L u3 ov->Cl 48 #[.pointer (some ⟨b,0,none⟩)] W fun e W'=>∃v',e=.returned (.agg #[.int .i64 (plA E z a),.string (tkA E a).tx,v'])/\RS E z w0 W' b tv a2 0 v' ns/\Fr W W' b (.slice none 0 0) v'):=fun W h=>zoZ HE.out HVB h.s hru a2 ns hx
     have HNm:=hO hnm;have hn:=HW.n;have HNx:Hid (nxt b wr=a):=HW.s.nx;clear HR HG ht hk hpl hru hx hnm;go_wp2_with fail;refine (HH ()).mono ?_;rintro e w1 ⟨rfl,hb⟩;have H1:=hO (HW.later hb);clear hb HH HW;go_wp2_with fail;refine (HRu _ H1.out).mono ?_;rintro e w2 ⟨v2,rfl,h2,hf2⟩;obtain ⟨A2,n2,rfl⟩:=zag h2.o;have H2:=hO h2;have HK2:=hO (H1.read hf2);have hO:=HK2.1;have hs2:=h2.bl.size;clear h2 hf2 H1 HRu;generalize hpa:plA E z a=p0 at *;generalize htx:(tkA E a).tx=tx0 at *;go_wp2_with (at_builtin;refine wpList_append_lies _ rfl _ _ 59 rfl w0.heap.size 62 i0 (.agg #[.int .i64 0,.string ⟨#[]⟩,.slice none 0 0]) 3 48 Tryz.underlying59 hinf hz0 hz1 hz2 rfl (by decide) _ _ _ rfl (hO.alloc _) ⟨w2.heap.size,0,none⟩ 1 1 [.int .i64 p0,.string tx0,.slice A2 ns.length n2] rfl rfl ?c1 ?c2 (by decide) ?c3 ?c4 ?c5 (w2.heap.size+1) (by simp) ?_)
     case c1=>exact World.news_of_block (cs:=#[.int .i64 p0,.string tx0,.slice A2 ns.length n2]) (t:=62) (fr:=(0,0)) (heap_alloc_new w2 _)
     case c2=>intro u hu;simp only [List.mem_cons,List.not_mem_nil,or_false] at hu;rcases hu with rfl | rfl | rfl <;> rfl
     case c3=>unfold maxLen;omega
     case c4=>omega
     case c5=>rw [sA];omega
     intro g3 cap w3 hown hgrow hat hlt3;have HW3:=(show Hid (AtR E z w0 w3 b tv a2 (.slice A2 ns.length n2) ns (.slice (some ⟨g3,0,none⟩) (ov.length+1) cap) (ov++[((a,tx0,ns),.slice A2 ns.length n2)])) from by
      have ha2:=hO.alloc (.cells #[.int .i64 p0,.string tx0,.slice A2 ns.length n2] 62);have hS:=(H2.later (zaa w2 (.cells #[.int .i64 p0,.string tx0,.slice A2 ns.length n2] 62))).gr ha2 hgrow;refine ⟨hS,?_,((HK2.2.1.later (zaa w2 _)).grow hgrow ha2 (by decide)).push _ hS.o HK2.2.2,by rw [lA,List.length_singleton];omega,HNm.out⟩;rw [lA,List.length_singleton,ziA,zkW];unfold plV;rw [hpa];exact hown)
     have HV3:Hid (R0=rlG (exN E) E f a2 ((ov++[((a,tx0,ns),Value.slice A2 ns.length n2)]).map (·.1))):=by
      show R0=_
      rw [HV.out,List.map_append];rfl
     clear hown hgrow hat hlt3 H2 HK2 hO hpa htx HV;go_wp2_with fail;go_roundw
     case rel=>exact ⟨a2,_,_,_,f,by omega,HW3,HV3⟩
     case measure=>rw [HNx.out,HW3.s.nx];omega
   ·have hk1:¬kdA E a=1:=fun q=>hru (HW.nm q)
    have HV:Hid (R0=.inr (a,60)):=by
     show R0=_
     rw [HG.out,iP hlt,iN hru]
    have HRu:Hid (∀W,AtR E z w0 W b tv a v L u3 ov->Cl 48 #[.pointer (some ⟨b,0,none⟩)] W fun e W'=>e=pnc (plA E z a) 60/\Below w0.heap.size w0 W'):=fun W h=>zo0 h.s hk1
    clear HR HG ht hk hpl hru hk1;go_wp2_with fail;refine (HH ()).mono ?_;rintro e w1 ⟨rfl,hb⟩;have H1:=hO (HW.later hb);clear hb HH;go_wp2_with fail;refine (HRu _ H1.out).mono ?_;rintro e w2 ⟨rfl,hb⟩;exact zah (P:=Tryz.prog) (fn:=Tryz.f25) rfl (by show RlV E z w0 R0 _ _;rw [HV.out];exact ⟨rfl,hb⟩)
  ·have hae:a=E.l.length:=by omega
   have t1:(t.kd != 0)=false:=by rw [hk,hae,zi3];rfl
   have HV:Hid (R0=.inl (ov.map (·.1))):=by
    show R0=_
    rw [HG.out,iN hlt]
   clear HR HG ht hk hpl hae;go_wp2_with fail;refine (HH ()).mono ?_;rintro e w1 ⟨rfl,hb⟩;have H1:=hO (HW.later hb);clear hb HH;go_wp2_with fail;go_ret
   show RlV E z w0 R0 _ _
   rw [HV.out];exact ⟨_,ov,rfl,H1.o,H1.bd,rfl,H1.s.bl⟩
end Go.Proofs.YtkihfkcmcdiajaaGreatDoor.N
