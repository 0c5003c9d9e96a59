import Derived.Test.YtkihfkcmcdiajabGreatDoorPo21
set_option maxRecDepth 100000
set_option maxHeartbeats 8000000
namespace Go.Proofs.YtkihfkcmcdiajabGreatDoor.T
def atI (k:Nat) (st:List Pt):Nat->Nat
 | 0=>k
 | i+1=>match st[i]? with
  | some x=>x.1
  | none=>0
def hI (L:List Nd) (op:Int) (a:Nat) (st:List Pt):Nat->Nat
 | 0=>0
 | i+1=>match st[i]? with
  | some x=>max (hI L op a st i) (if i+1=a/\a=2/\zdF L x.2.1=op then x.2.2 - 1 else x.2.2)
  | none=>hI L op a st i
theorem mk_pos (L:List Nd) (k:Nat) (op:Int) (st:List Pt):1<=(mk L k op st).2.2:=by
 unfold mk
 split
 ·exact nL _
 ·split
  ·split
   ·show 1<=max 1 _;omega
   ·exact nL _
  ·split
   ·show 1<=max (max 1 _) _;omega
   ·exact nL _
theorem zpe {L:List Nd} {k:Nat} (hk:k<=L.length) (h:∀j,j<k->er L j=0):∀x∈run L k,1<=x.2.2:=fun x hx=>by
 obtain ⟨_,_,_,e⟩:=zf3 hk h x hx;rw [e];exact mk_pos _ _ _ _
theorem zkW (L:List Nd) (k:Nat) (st:List Pt) (h:Chn L k st):∀i,i<=st.length->Chn L (atI k st i) (st.drop i):=by
 intro i
 induction i with
 | zero=>intro _;exact h
 | succ i ih =>
  intro hi;have c:=ih (by omega);rw [List.drop_eq_getElem_cons (by omega)] at c
  show Chn L (match st[i]? with
   | some x=>x.1
   | none=>0) _
  rw [gE (by omega)];exact c.2.2.2
theorem pt_at (L:List Nd) (k:Nat) (op:Int) (st:List Pt) (h:arN op<=st.length) (hp:∀x∈st,1<=x.2.2):mk L k op st=(atI k st (arN op),k,hI L op (arN op) st (arN op)+1):=by
 have h2:=zfc op;unfold mk;by_cases a0:arN op=0
 ·rw [iP a0,a0];rfl
 rw [iN a0];by_cases a1:arN op=1
 ·rw [iP a1]
  rw [a1] at h ⊢
  cases st with
  | nil=>simp at h
  | cons x r=>simp [atI,hI]
 ·rw [iN a1]
  have e2:arN op=2:=by omega
  rw [e2] at h ⊢
  cases st with
  | nil=>simp at h
  | cons y r=>cases r with
   | nil=>simp at h
   | cons x r =>
    have hx:=hp x (by simp);simp only [atI,hI,List.getElem?_cons_zero,List.getElem?_cons_succ];by_cases ho:zdF L x.2.1=op
    ·simp [ho];omega
    ·simp [ho];omega
theorem hI_bd (L:List Nd) (op:Int) (a:Nat) (st:List Pt) (h:∀x∈st,x.2.2<=60):∀i,hI L op a st i<=60:=by
 intro i
 induction i with
 | zero=>exact Nat.zero_le _
 | succ i ih =>
  rw [hI]
  split
  ·next x hx =>
   have:=h x (List.mem_of_getElem? hx)
   split <;> omega
  ·exact ih
open Go.RowKit
theorem zae (w:World) (o p:Obj):bW w ((w.alloc o).alloc p):=by
 have h:=zaa w o;exact h.alloc h.size _
theorem zmJ (nn:Int) (tx:ByteArray) (a b c d:Int) (_hs:tx.size<=140737488355328) (w:World):Cl 76 #[.agg #[.int .i64 4,.int .i64 nn,.string tx,.int .u64 a,.int .u64 b,.int .u64 c,.int .u64 d]] w (rB w (.bool (txF 4 tx&&nuF 4 nn&&seF 4 a b c d))):=by
 have sq:=zbK 4 a b c d (by decide);have hq:=zcv a b c d 0 0 0 0
 cases hz:seE a b c d 0 0 0 0 with
 | false =>
  have HF:Hid ((txF 4 tx&&nuF 4 nn&&seF 4 a b c d)=false):=(by show (_&&_)=_;rw [<-sq,hz,Bool.and_false]);rw [hz] at hq;clear sq hz;go_enter Tryz.func76,Tryz.ntmps76;go_wp2_with fail;go_ret
  exact ⟨by rw [HF.out];rfl,zae _ _ _⟩
 | true =>
  have hse:seF 4 a b c d=true:=by rw [<-sq,hz]
  rw [hz] at hq;clear sq hz;have HU:Hid (nuF 4 nn=decide (nn=0)):=rfl;by_cases n1:nn<0
  ·have HF:Hid ((txF 4 tx&&nuF 4 nn&&seF 4 a b c d)=false):=(by show (_&&_)=_;rw [hse,HU.out,dF (by omega),Bool.and_true,Bool.and_false])
   clear HU hse;go_enter Tryz.func76,Tryz.ntmps76;go_wp2_with fail;go_ret
   exact ⟨by rw [HF.out];rfl,zae _ _ _⟩
  by_cases n2:50<nn
  ·have HF:Hid ((txF 4 tx&&nuF 4 nn&&seF 4 a b c d)=false):=(by show (_&&_)=_;rw [hse,HU.out,dF (by omega),Bool.and_true,Bool.and_false])
   clear HU hse;go_enter Tryz.func76,Tryz.ntmps76;go_wp2_with fail;go_ret
   exact ⟨by rw [HF.out];rfl,zae _ _ _⟩
  by_cases n3:nn=0
  rotate_left
  ·have HF:Hid ((txF 4 tx&&nuF 4 nn&&seF 4 a b c d)=false):=(by show (_&&_)=_;rw [hse,HU.out,dF n3,Bool.and_true,Bool.and_false])
   have f3:(nn==0)=false:=bF n3;clear HU hse n3;go_enter Tryz.func76,Tryz.ntmps76;go_wp2_with fail;go_ret
   exact ⟨by rw [HF.out];rfl,zae _ _ _⟩
  have f3:(nn==0)=true:=beq_iff_eq.2 n3;have HF:Hid ((txF 4 tx&&nuF 4 nn&&seF 4 a b c d)=txF 4 tx):=(by show (_&&_)=_;rw [hse,HU.out,decide_eq_true (by omega),Bool.and_true,Bool.and_true]);clear hse HU n3;by_cases q0:(tx.size:Int)<1
  ·have HG:Hid (txF 4 tx=false):=(by show txF 4 tx=_;unfold txF;rw [iP rfl,dF (by omega)])
   go_enter Tryz.func76,Tryz.ntmps76;go_wp2_with fail;go_ret
   exact ⟨by rw [HF.out,HG.out];rfl,zae _ _ _⟩
  ·have HG:Hid (txF 4 tx=decide ((tx.size:Int)<=255)):=(by
    show txF 4 tx=_
    unfold txF;rw [iP rfl];by_cases q:tx.size<=255
    ·rw [decide_eq_true (by omega),decide_eq_true (by omega)]
    ·rw [dF (by omega),dF (by omega)])
   go_enter Tryz.func76,Tryz.ntmps76;go_wp2_with fail;go_ret
   exact ⟨by rw [HF.out,HG.out];rfl,zae _ _ _⟩
theorem zmK (nn:Int) (tx:ByteArray) (a b c d:Int) (hs:tx.size<=140737488355328) (w:World):Cl 76 #[.agg #[.int .i64 6,.int .i64 nn,.string tx,.int .u64 a,.int .u64 b,.int .u64 c,.int .u64 d]] w (rB w (.bool (txF 6 tx&&nuF 6 nn&&seF 6 a b c d))):=by
 have sq:=zbK 6 a b c d (by decide);have hq:=zcv a b c d 0 0 0 0
 cases hz:seE a b c d 0 0 0 0 with
 | false =>
  have HF:Hid ((txF 6 tx&&nuF 6 nn&&seF 6 a b c d)=false):=(by show (_&&_)=_;rw [<-sq,hz,Bool.and_false]);rw [hz] at hq;clear sq hz;go_enter Tryz.func76,Tryz.ntmps76;go_wp2_with fail;go_ret
  exact ⟨by rw [HF.out];rfl,zae _ _ _⟩
 | true =>
  have hse:seF 6 a b c d=true:=by rw [<-sq,hz]
  rw [hz] at hq;clear sq hz;have HU:Hid (nuF 6 nn=decide (nn=0)):=rfl;by_cases n1:nn<0
  ·have HF:Hid ((txF 6 tx&&nuF 6 nn&&seF 6 a b c d)=false):=(by show (_&&_)=_;rw [hse,HU.out,dF (by omega),Bool.and_true,Bool.and_false])
   clear HU hse;go_enter Tryz.func76,Tryz.ntmps76;go_wp2_with fail;go_ret
   exact ⟨by rw [HF.out];rfl,zae _ _ _⟩
  by_cases n2:50<nn
  ·have HF:Hid ((txF 6 tx&&nuF 6 nn&&seF 6 a b c d)=false):=(by show (_&&_)=_;rw [hse,HU.out,dF (by omega),Bool.and_true,Bool.and_false])
   clear HU hse;go_enter Tryz.func76,Tryz.ntmps76;go_wp2_with fail;go_ret
   exact ⟨by rw [HF.out];rfl,zae _ _ _⟩
  by_cases n3:nn=0
  rotate_left
  ·have HF:Hid ((txF 6 tx&&nuF 6 nn&&seF 6 a b c d)=false):=(by show (_&&_)=_;rw [hse,HU.out,dF n3,Bool.and_true,Bool.and_false])
   have f3:(nn==0)=false:=bF n3;clear HU hse n3;go_enter Tryz.func76,Tryz.ntmps76;go_wp2_with fail;go_ret
   exact ⟨by rw [HF.out];rfl,zae _ _ _⟩
  have f3:(nn==0)=true:=beq_iff_eq.2 n3;have HF:Hid ((txF 6 tx&&nuF 6 nn&&seF 6 a b c d)=txF 6 tx):=(by show (_&&_)=_;rw [hse,HU.out,decide_eq_true (by omega),Bool.and_true,Bool.and_true]);clear hse HU n3;have HN:Hid (∀w,Cl 99 #[.string tx] w (rU w (.bool (nmB tx)))):=fun w=>zgt tx hs w
  have HG:Hid (txF 6 tx=nmB tx):=rfl;go_enter Tryz.func76,Tryz.ntmps76;go_wp2_with fail;refine (HN _).mono ?_;rintro e w2 ⟨rfl,rfl⟩;clear HN;go_wp2_with fail;go_ret
  exact ⟨by rw [HF.out,HG.out];rfl,zae _ _ _⟩
theorem zkX (nn:Int) (tx:ByteArray) (a b c d:Int) (hs:tx.size<=140737488355328) (w:World):Cl 76 #[.agg #[.int .i64 19,.int .i64 nn,.string tx,.int .u64 a,.int .u64 b,.int .u64 c,.int .u64 d]] w (rB w (.bool (txF 19 tx&&nuF 19 nn&&seF 19 a b c d))):=by
 have sq:=zbK 19 a b c d (by decide);have hq:=zcv a b c d 0 0 0 0
 cases hz:seE a b c d 0 0 0 0 with
 | false =>
  have HF:Hid ((txF 19 tx&&nuF 19 nn&&seF 19 a b c d)=false):=(by show (_&&_)=_;rw [<-sq,hz,Bool.and_false]);rw [hz] at hq;clear sq hz;go_enter Tryz.func76,Tryz.ntmps76;go_wp2_with fail;go_ret
  exact ⟨by rw [HF.out];rfl,zae _ _ _⟩
 | true =>
  have hse:seF 19 a b c d=true:=by rw [<-sq,hz]
  rw [hz] at hq;clear sq hz;have HU:Hid (nuF 19 nn=decide (nn=0)):=rfl;by_cases n1:nn<0
  ·have HF:Hid ((txF 19 tx&&nuF 19 nn&&seF 19 a b c d)=false):=(by show (_&&_)=_;rw [hse,HU.out,dF (by omega),Bool.and_true,Bool.and_false])
   clear HU hse;go_enter Tryz.func76,Tryz.ntmps76;go_wp2_with fail;go_ret
   exact ⟨by rw [HF.out];rfl,zae _ _ _⟩
  by_cases n2:50<nn
  ·have HF:Hid ((txF 19 tx&&nuF 19 nn&&seF 19 a b c d)=false):=(by show (_&&_)=_;rw [hse,HU.out,dF (by omega),Bool.and_true,Bool.and_false])
   clear HU hse;go_enter Tryz.func76,Tryz.ntmps76;go_wp2_with fail;go_ret
   exact ⟨by rw [HF.out];rfl,zae _ _ _⟩
  by_cases n3:nn=0
  rotate_left
  ·have HF:Hid ((txF 19 tx&&nuF 19 nn&&seF 19 a b c d)=false):=(by show (_&&_)=_;rw [hse,HU.out,dF n3,Bool.and_true,Bool.and_false])
   have f3:(nn==0)=false:=bF n3;clear HU hse n3;go_enter Tryz.func76,Tryz.ntmps76;go_wp2_with fail;go_ret
   exact ⟨by rw [HF.out];rfl,zae _ _ _⟩
  have f3:(nn==0)=true:=beq_iff_eq.2 n3;have HF:Hid ((txF 19 tx&&nuF 19 nn&&seF 19 a b c d)=txF 19 tx):=(by show (_&&_)=_;rw [hse,HU.out,decide_eq_true (by omega),Bool.and_true,Bool.and_true]);clear hse HU n3;by_cases q0:tx.size=0
  ·have HG:Hid (txF 19 tx=true):=(by show txF 19 tx=_;unfold txF;rw [iN (by decide),iN (by decide),iP rfl,decide_eq_true q0];rfl)
   have t0:=zer q0;clear q0;go_enter Tryz.func76,Tryz.ntmps76;go_wp2_with fail;go_ret
   exact ⟨by rw [HF.out,HG.out];rfl,zae _ _ _⟩
  ·have HG:Hid (txF 19 tx=nmB tx):=(by show txF 19 tx=_;unfold txF;rw [iN (by decide),iN (by decide),iP rfl,dF q0];rfl)
   have t0:=zdP q0;have HN:Hid (∀w,Cl 99 #[.string tx] w (rU w (.bool (nmB tx)))):=fun w=>zgt tx hs w
   clear q0;go_enter Tryz.func76,Tryz.ntmps76;go_wp2_with fail;refine (HN _).mono ?_;rintro e w2 ⟨rfl,rfl⟩;clear HN;go_wp2_with fail;go_ret
   exact ⟨by rw [HF.out,HG.out];rfl,zae _ _ _⟩
theorem zkY (nn:Int) (tx:ByteArray) (a b c d:Int) (hs:tx.size<=140737488355328) (w:World):Cl 76 #[.agg #[.int .i64 22,.int .i64 nn,.string tx,.int .u64 a,.int .u64 b,.int .u64 c,.int .u64 d]] w (rB w (.bool (txF 22 tx&&nuF 22 nn&&seF 22 a b c d))):=by
 have sq:=zbK 22 a b c d (by decide);have hq:=zcv a b c d 0 0 0 0
 cases hz:seE a b c d 0 0 0 0 with
 | false =>
  have HF:Hid ((txF 22 tx&&nuF 22 nn&&seF 22 a b c d)=false):=(by show (_&&_)=_;rw [<-sq,hz,Bool.and_false]);rw [hz] at hq;clear sq hz;go_enter Tryz.func76,Tryz.ntmps76;go_wp2_with fail;go_ret
  exact ⟨by rw [HF.out];rfl,zae _ _ _⟩
 | true =>
  have hse:seF 22 a b c d=true:=by rw [<-sq,hz]
  rw [hz] at hq;clear sq hz;have HU:Hid (nuF 22 nn=decide (nn=0)):=rfl;by_cases n1:nn<0
  ·have HF:Hid ((txF 22 tx&&nuF 22 nn&&seF 22 a b c d)=false):=(by show (_&&_)=_;rw [hse,HU.out,dF (by omega),Bool.and_true,Bool.and_false])
   clear HU hse;go_enter Tryz.func76,Tryz.ntmps76;go_wp2_with fail;go_ret
   exact ⟨by rw [HF.out];rfl,zae _ _ _⟩
  by_cases n2:50<nn
  ·have HF:Hid ((txF 22 tx&&nuF 22 nn&&seF 22 a b c d)=false):=(by show (_&&_)=_;rw [hse,HU.out,dF (by omega),Bool.and_true,Bool.and_false])
   clear HU hse;go_enter Tryz.func76,Tryz.ntmps76;go_wp2_with fail;go_ret
   exact ⟨by rw [HF.out];rfl,zae _ _ _⟩
  by_cases n3:nn=0
  rotate_left
  ·have HF:Hid ((txF 22 tx&&nuF 22 nn&&seF 22 a b c d)=false):=(by show (_&&_)=_;rw [hse,HU.out,dF n3,Bool.and_true,Bool.and_false])
   have f3:(nn==0)=false:=bF n3;clear HU hse n3;go_enter Tryz.func76,Tryz.ntmps76;go_wp2_with fail;go_ret
   exact ⟨by rw [HF.out];rfl,zae _ _ _⟩
  have f3:(nn==0)=true:=beq_iff_eq.2 n3;have HF:Hid ((txF 22 tx&&nuF 22 nn&&seF 22 a b c d)=txF 22 tx):=(by show (_&&_)=_;rw [hse,HU.out,decide_eq_true (by omega),Bool.and_true,Bool.and_true]);clear hse HU n3;have HN:Hid (∀w,Cl 100 #[.string tx] w (rU w (.bool (tmB tx)))):=fun w=>zdA tx hs w
  have HG:Hid (txF 22 tx=tmB tx):=rfl;go_enter Tryz.func76,Tryz.ntmps76;go_wp2_with fail;refine (HN _).mono ?_;rintro e w2 ⟨rfl,rfl⟩;clear HN;go_wp2_with fail;go_ret
  exact ⟨by rw [HF.out,HG.out];rfl,zae _ _ _⟩
theorem zmL (nn:Int) (tx:ByteArray) (a b c d:Int) (_hs:tx.size<=140737488355328) (w:World):Cl 76 #[.agg #[.int .i64 5,.int .i64 nn,.string tx,.int .u64 a,.int .u64 b,.int .u64 c,.int .u64 d]] w (rB w (.bool (txF 5 tx&&nuF 5 nn&&seF 5 a b c d))):=by
 have hse:seF 5 a b c d=true:=rfl;have HU:Hid (nuF 5 nn=decide (nn=0)):=rfl;by_cases n1:nn<0
 ·have HF:Hid ((txF 5 tx&&nuF 5 nn&&seF 5 a b c d)=false):=(by show (_&&_)=_;rw [hse,HU.out,dF (by omega),Bool.and_true,Bool.and_false])
  clear HU hse;go_enter Tryz.func76,Tryz.ntmps76;go_wp2_with fail;go_ret
  exact ⟨by rw [HF.out];rfl,zae _ _ _⟩
 by_cases n2:50<nn
 ·have HF:Hid ((txF 5 tx&&nuF 5 nn&&seF 5 a b c d)=false):=(by show (_&&_)=_;rw [hse,HU.out,dF (by omega),Bool.and_true,Bool.and_false])
  clear HU hse;go_enter Tryz.func76,Tryz.ntmps76;go_wp2_with fail;go_ret
  exact ⟨by rw [HF.out];rfl,zae _ _ _⟩
 by_cases n3:nn=0
 rotate_left
 ·have HF:Hid ((txF 5 tx&&nuF 5 nn&&seF 5 a b c d)=false):=(by show (_&&_)=_;rw [hse,HU.out,dF n3,Bool.and_true,Bool.and_false])
  have f3:(nn==0)=false:=bF n3;clear HU hse n3;go_enter Tryz.func76,Tryz.ntmps76;go_wp2_with fail;go_ret
  exact ⟨by rw [HF.out];rfl,zae _ _ _⟩
 have f3:(nn==0)=true:=beq_iff_eq.2 n3;have HF:Hid ((txF 5 tx&&nuF 5 nn&&seF 5 a b c d)=txF 5 tx):=(by show (_&&_)=_;rw [hse,HU.out,decide_eq_true (by omega),Bool.and_true,Bool.and_true]);clear hse HU n3;have HT:Hid (txF 5 tx=decide (tx.size=0)):=rfl;by_cases q0:tx.size=0
 ·have HG:Hid (txF 5 tx=true):=(by show txF _ tx=_;rw [HT.out,decide_eq_true q0])
  have t0:=zer q0;clear q0;go_enter Tryz.func76,Tryz.ntmps76;go_wp2_with fail;go_ret
  exact ⟨by rw [HF.out,HG.out];rfl,zae _ _ _⟩
 ·have HG:Hid (txF 5 tx=false):=(by show txF _ tx=_;rw [HT.out,dF q0])
  have t0:=zdP q0;clear q0;go_enter Tryz.func76,Tryz.ntmps76;go_wp2_with fail;go_ret
  exact ⟨by rw [HF.out,HG.out];rfl,zae _ _ _⟩
theorem zkZ (nn:Int) (tx:ByteArray) (a b c d:Int) (_hs:tx.size<=140737488355328) (w:World):Cl 76 #[.agg #[.int .i64 14,.int .i64 nn,.string tx,.int .u64 a,.int .u64 b,.int .u64 c,.int .u64 d]] w (rB w (.bool (txF 14 tx&&nuF 14 nn&&seF 14 a b c d))):=by
 have sq:=zbK 14 a b c d (by decide);have hq:=zcv a b c d 0 0 0 0
 cases hz:seE a b c d 0 0 0 0 with
 | false =>
  have HF:Hid ((txF 14 tx&&nuF 14 nn&&seF 14 a b c d)=false):=(by show (_&&_)=_;rw [<-sq,hz,Bool.and_false]);rw [hz] at hq;clear sq hz;go_enter Tryz.func76,Tryz.ntmps76;go_wp2_with fail;go_ret
  exact ⟨by rw [HF.out];rfl,zae _ _ _⟩
 | true =>
  have hse:seF 14 a b c d=true:=by rw [<-sq,hz]
  rw [hz] at hq;clear sq hz;have HU:Hid (nuF 14 nn=decide (0<=nn/\nn<=50)):=rfl;by_cases n1:nn<0
  ·have HF:Hid ((txF 14 tx&&nuF 14 nn&&seF 14 a b c d)=false):=(by show (_&&_)=_;rw [hse,HU.out,dF (by omega),Bool.and_true,Bool.and_false])
   clear HU hse;go_enter Tryz.func76,Tryz.ntmps76;go_wp2_with fail;go_ret
   exact ⟨by rw [HF.out];rfl,zae _ _ _⟩
  by_cases n2:50<nn
  ·have HF:Hid ((txF 14 tx&&nuF 14 nn&&seF 14 a b c d)=false):=(by show (_&&_)=_;rw [hse,HU.out,dF (by omega),Bool.and_true,Bool.and_false])
   clear HU hse;go_enter Tryz.func76,Tryz.ntmps76;go_wp2_with fail;go_ret
   exact ⟨by rw [HF.out];rfl,zae _ _ _⟩
  have HF:Hid ((txF 14 tx&&nuF 14 nn&&seF 14 a b c d)=txF 14 tx):=(by show (_&&_)=_;rw [hse,HU.out,decide_eq_true (by omega),Bool.and_true,Bool.and_true]);clear hse HU;have HT:Hid (txF 14 tx=decide (tx.size=0)):=rfl;by_cases q0:tx.size=0
  ·have HG:Hid (txF 14 tx=true):=(by show txF _ tx=_;rw [HT.out,decide_eq_true q0])
   have t0:=zer q0;clear q0;go_enter Tryz.func76,Tryz.ntmps76;go_wp2_with fail;go_ret
   exact ⟨by rw [HF.out,HG.out];rfl,zae _ _ _⟩
  ·have HG:Hid (txF 14 tx=false):=(by show txF _ tx=_;rw [HT.out,dF q0])
   have t0:=zdP q0;clear q0;go_enter Tryz.func76,Tryz.ntmps76;go_wp2_with fail;go_ret
   exact ⟨by rw [HF.out,HG.out];rfl,zae _ _ _⟩
theorem zk0 (nn:Int) (tx:ByteArray) (a b c d:Int) (_hs:tx.size<=140737488355328) (w:World):Cl 76 #[.agg #[.int .i64 15,.int .i64 nn,.string tx,.int .u64 a,.int .u64 b,.int .u64 c,.int .u64 d]] w (rB w (.bool (txF 15 tx&&nuF 15 nn&&seF 15 a b c d))):=by
 have sq:=zbK 15 a b c d (by decide);have hq:=zcv a b c d 0 0 0 0
 cases hz:seE a b c d 0 0 0 0 with
 | false =>
  have HF:Hid ((txF 15 tx&&nuF 15 nn&&seF 15 a b c d)=false):=(by show (_&&_)=_;rw [<-sq,hz,Bool.and_false]);rw [hz] at hq;clear sq hz;go_enter Tryz.func76,Tryz.ntmps76;go_wp2_with fail;go_ret
  exact ⟨by rw [HF.out];rfl,zae _ _ _⟩
 | true =>
  have hse:seF 15 a b c d=true:=by rw [<-sq,hz]
  rw [hz] at hq;clear sq hz;have HU:Hid (nuF 15 nn=decide (0<=nn/\nn<=50)):=rfl;by_cases n1:nn<0
  ·have HF:Hid ((txF 15 tx&&nuF 15 nn&&seF 15 a b c d)=false):=(by show (_&&_)=_;rw [hse,HU.out,dF (by omega),Bool.and_true,Bool.and_false])
   clear HU hse;go_enter Tryz.func76,Tryz.ntmps76;go_wp2_with fail;go_ret
   exact ⟨by rw [HF.out];rfl,zae _ _ _⟩
  by_cases n2:50<nn
  ·have HF:Hid ((txF 15 tx&&nuF 15 nn&&seF 15 a b c d)=false):=(by show (_&&_)=_;rw [hse,HU.out,dF (by omega),Bool.and_true,Bool.and_false])
   clear HU hse;go_enter Tryz.func76,Tryz.ntmps76;go_wp2_with fail;go_ret
   exact ⟨by rw [HF.out];rfl,zae _ _ _⟩
  have HF:Hid ((txF 15 tx&&nuF 15 nn&&seF 15 a b c d)=txF 15 tx):=(by show (_&&_)=_;rw [hse,HU.out,decide_eq_true (by omega),Bool.and_true,Bool.and_true]);clear hse HU;have HT:Hid (txF 15 tx=decide (tx.size=0)):=rfl;by_cases q0:tx.size=0
  ·have HG:Hid (txF 15 tx=true):=(by show txF _ tx=_;rw [HT.out,decide_eq_true q0])
   have t0:=zer q0;clear q0;go_enter Tryz.func76,Tryz.ntmps76;go_wp2_with fail;go_ret
   exact ⟨by rw [HF.out,HG.out];rfl,zae _ _ _⟩
  ·have HG:Hid (txF 15 tx=false):=(by show txF _ tx=_;rw [HT.out,dF q0])
   have t0:=zdP q0;clear q0;go_enter Tryz.func76,Tryz.ntmps76;go_wp2_with fail;go_ret
   exact ⟨by rw [HF.out,HG.out];rfl,zae _ _ _⟩
theorem zk1 (nn:Int) (tx:ByteArray) (a b c d:Int) (_hs:tx.size<=140737488355328) (w:World):Cl 76 #[.agg #[.int .i64 16,.int .i64 nn,.string tx,.int .u64 a,.int .u64 b,.int .u64 c,.int .u64 d]] w (rB w (.bool (txF 16 tx&&nuF 16 nn&&seF 16 a b c d))):=by
 have sq:=zbK 16 a b c d (by decide);have hq:=zcv a b c d 0 0 0 0
 cases hz:seE a b c d 0 0 0 0 with
 | false =>
  have HF:Hid ((txF 16 tx&&nuF 16 nn&&seF 16 a b c d)=false):=(by show (_&&_)=_;rw [<-sq,hz,Bool.and_false]);rw [hz] at hq;clear sq hz;go_enter Tryz.func76,Tryz.ntmps76;go_wp2_with fail;go_ret
  exact ⟨by rw [HF.out];rfl,zae _ _ _⟩
 | true =>
  have hse:seF 16 a b c d=true:=by rw [<-sq,hz]
  rw [hz] at hq;clear sq hz;have HU:Hid (nuF 16 nn=decide (0<=nn/\nn<=50)):=rfl;by_cases n1:nn<0
  ·have HF:Hid ((txF 16 tx&&nuF 16 nn&&seF 16 a b c d)=false):=(by show (_&&_)=_;rw [hse,HU.out,dF (by omega),Bool.and_true,Bool.and_false])
   clear HU hse;go_enter Tryz.func76,Tryz.ntmps76;go_wp2_with fail;go_ret
   exact ⟨by rw [HF.out];rfl,zae _ _ _⟩
  by_cases n2:50<nn
  ·have HF:Hid ((txF 16 tx&&nuF 16 nn&&seF 16 a b c d)=false):=(by show (_&&_)=_;rw [hse,HU.out,dF (by omega),Bool.and_true,Bool.and_false])
   clear HU hse;go_enter Tryz.func76,Tryz.ntmps76;go_wp2_with fail;go_ret
   exact ⟨by rw [HF.out];rfl,zae _ _ _⟩
  have HF:Hid ((txF 16 tx&&nuF 16 nn&&seF 16 a b c d)=txF 16 tx):=(by show (_&&_)=_;rw [hse,HU.out,decide_eq_true (by omega),Bool.and_true,Bool.and_true]);clear hse HU;have HT:Hid (txF 16 tx=decide (tx.size=0)):=rfl;by_cases q0:tx.size=0
  ·have HG:Hid (txF 16 tx=true):=(by show txF _ tx=_;rw [HT.out,decide_eq_true q0])
   have t0:=zer q0;clear q0;go_enter Tryz.func76,Tryz.ntmps76;go_wp2_with fail;go_ret
   exact ⟨by rw [HF.out,HG.out];rfl,zae _ _ _⟩
  ·have HG:Hid (txF 16 tx=false):=(by show txF _ tx=_;rw [HT.out,dF q0])
   have t0:=zdP q0;clear q0;go_enter Tryz.func76,Tryz.ntmps76;go_wp2_with fail;go_ret
   exact ⟨by rw [HF.out,HG.out];rfl,zae _ _ _⟩
theorem zk2 (nn:Int) (tx:ByteArray) (a b c d:Int) (_hs:tx.size<=140737488355328) (w:World):Cl 76 #[.agg #[.int .i64 23,.int .i64 nn,.string tx,.int .u64 a,.int .u64 b,.int .u64 c,.int .u64 d]] w (rB w (.bool (txF 23 tx&&nuF 23 nn&&seF 23 a b c d))):=by
 have sq:=zbK 23 a b c d (by decide);have hq:=zcv a b c d 0 0 0 0
 cases hz:seE a b c d 0 0 0 0 with
 | false =>
  have HF:Hid ((txF 23 tx&&nuF 23 nn&&seF 23 a b c d)=false):=(by show (_&&_)=_;rw [<-sq,hz,Bool.and_false]);rw [hz] at hq;clear sq hz;go_enter Tryz.func76,Tryz.ntmps76;go_wp2_with fail;go_ret
  exact ⟨by rw [HF.out];rfl,zae _ _ _⟩
 | true =>
  have hse:seF 23 a b c d=true:=by rw [<-sq,hz]
  rw [hz] at hq;clear sq hz;have HU:Hid (nuF 23 nn=decide (0<=nn/\nn<=50)):=rfl;by_cases n1:nn<0
  ·have HF:Hid ((txF 23 tx&&nuF 23 nn&&seF 23 a b c d)=false):=(by show (_&&_)=_;rw [hse,HU.out,dF (by omega),Bool.and_true,Bool.and_false])
   clear HU hse;go_enter Tryz.func76,Tryz.ntmps76;go_wp2_with fail;go_ret
   exact ⟨by rw [HF.out];rfl,zae _ _ _⟩
  by_cases n2:50<nn
  ·have HF:Hid ((txF 23 tx&&nuF 23 nn&&seF 23 a b c d)=false):=(by show (_&&_)=_;rw [hse,HU.out,dF (by omega),Bool.and_true,Bool.and_false])
   clear HU hse;go_enter Tryz.func76,Tryz.ntmps76;go_wp2_with fail;go_ret
   exact ⟨by rw [HF.out];rfl,zae _ _ _⟩
  have HF:Hid ((txF 23 tx&&nuF 23 nn&&seF 23 a b c d)=txF 23 tx):=(by show (_&&_)=_;rw [hse,HU.out,decide_eq_true (by omega),Bool.and_true,Bool.and_true]);clear hse HU;have HT:Hid (txF 23 tx=decide (tx.size=0)):=rfl;by_cases q0:tx.size=0
  ·have HG:Hid (txF 23 tx=true):=(by show txF _ tx=_;rw [HT.out,decide_eq_true q0])
   have t0:=zer q0;clear q0;go_enter Tryz.func76,Tryz.ntmps76;go_wp2_with fail;go_ret
   exact ⟨by rw [HF.out,HG.out];rfl,zae _ _ _⟩
  ·have HG:Hid (txF 23 tx=false):=(by show txF _ tx=_;rw [HT.out,dF q0])
   have t0:=zdP q0;clear q0;go_enter Tryz.func76,Tryz.ntmps76;go_wp2_with fail;go_ret
   exact ⟨by rw [HF.out,HG.out];rfl,zae _ _ _⟩
theorem ziF (op nn:Int) (tx:ByteArray) (a b c d:Int) (_hs:tx.size<=140737488355328) (h4:¬op=4) (h6:¬op=6) (h19:¬op=19) (h22:¬op=22) (h5:¬op=5) (h14:¬op=14) (h15:¬op=15) (h16:¬op=16) (h23:¬op=23) (w:World):Cl 76 #[.agg #[.int .i64 op,.int .i64 nn,.string tx,.int .u64 a,.int .u64 b,.int .u64 c,.int .u64 d]] w (rB w (.bool (txF op tx&&nuF op nn&&seF op a b c d))):=by
 have e4:(op==4)=false:=bF h4;have e6:(op==6)=false:=bF h6;have e19:(op==19)=false:=bF h19;have e22:(op==22)=false:=bF h22;have e5:(op != 5)=true:=by rw [bne,bF h5];rfl
 have e14:(op==14)=false:=bF h14;have e15:(op==15)=false:=bF h15;have e16:(op==16)=false:=bF h16;have e23:(op==23)=false:=bF h23;have sq:=zbK op a b c d h5;have hq:=zcv a b c d 0 0 0 0
 cases hz:seE a b c d 0 0 0 0 with
 | false =>
  have HF:Hid ((txF op tx&&nuF op nn&&seF op a b c d)=false):=(by show (_&&_)=_;rw [<-sq,hz,Bool.and_false]);rw [hz] at hq;clear sq hz h4 h6 h19 h22 h5 h14 h15 h16 h23;go_enter Tryz.func76,Tryz.ntmps76;go_wp2_with fail;go_ret
  exact ⟨by rw [HF.out];rfl,zae _ _ _⟩
 | true =>
  have hse:seF op a b c d=true:=by rw [<-sq,hz]
  rw [hz] at hq;clear sq hz;have HU:Hid (nuF op nn=decide (nn=0)):=(by show nuF op nn=_;unfold nuF;rw [iN (by omega)]);by_cases n1:nn<0
  ·have HF:Hid ((txF op tx&&nuF op nn&&seF op a b c d)=false):=(by show (_&&_)=_;rw [hse,HU.out,dF (by omega),Bool.and_true,Bool.and_false])
   clear HU hse h4 h6 h19 h22 h5 h14 h15 h16 h23;go_enter Tryz.func76,Tryz.ntmps76;go_wp2_with fail;go_ret
   exact ⟨by rw [HF.out];rfl,zae _ _ _⟩
  by_cases n2:50<nn
  ·have HF:Hid ((txF op tx&&nuF op nn&&seF op a b c d)=false):=(by show (_&&_)=_;rw [hse,HU.out,dF (by omega),Bool.and_true,Bool.and_false])
   clear HU hse h4 h6 h19 h22 h5 h14 h15 h16 h23;go_enter Tryz.func76,Tryz.ntmps76;go_wp2_with fail;go_ret
   exact ⟨by rw [HF.out];rfl,zae _ _ _⟩
  by_cases n3:nn=0
  rotate_left
  ·have HF:Hid ((txF op tx&&nuF op nn&&seF op a b c d)=false):=(by show (_&&_)=_;rw [hse,HU.out,dF n3,Bool.and_true,Bool.and_false])
   have f3:(nn==0)=false:=bF n3;clear HU hse n3 h4 h6 h19 h22 h5 h14 h15 h16 h23;go_enter Tryz.func76,Tryz.ntmps76;go_wp2_with fail;go_ret
   exact ⟨by rw [HF.out];rfl,zae _ _ _⟩
  have f3:(nn==0)=true:=beq_iff_eq.2 n3;have HF:Hid ((txF op tx&&nuF op nn&&seF op a b c d)=txF op tx):=(by show (_&&_)=_;rw [hse,HU.out,decide_eq_true (by omega),Bool.and_true,Bool.and_true]);clear hse HU n3;have HT:Hid (txF op tx=decide (tx.size=0)):=(by show txF op tx=_;unfold txF;rw [iN h4,iN h6,iN h19,iN h22]);clear h4 h6 h19 h22 h5 h14 h15 h16 h23;by_cases q0:tx.size=0
  ·have HG:Hid (txF op tx=true):=(by show txF _ tx=_;rw [HT.out,decide_eq_true q0])
   have t0:=zer q0;clear q0;go_enter Tryz.func76,Tryz.ntmps76;go_wp2_with fail;go_ret
   exact ⟨by rw [HF.out,HG.out];rfl,zae _ _ _⟩
  ·have HG:Hid (txF op tx=false):=(by show txF _ tx=_;rw [HT.out,dF q0])
   have t0:=zdP q0;clear q0;go_enter Tryz.func76,Tryz.ntmps76;go_wp2_with fail;go_ret
   exact ⟨by rw [HF.out,HG.out];rfl,zae _ _ _⟩
theorem fieldR (n:Nd) (hs:n.tx.size<=140737488355328) (w:World):Cl 76 #[ndG n] w (rB w (.bool (fdF n))):=by
 obtain ⟨op,nn,tx,a,b,c,d⟩:=n
 show Cl 76 #[.agg #[.int .i64 op,.int .i64 nn,.string tx,.int .u64 a,.int .u64 b,.int .u64 c,.int .u64 d]] w (rB w (.bool (txF op tx&&nuF op nn&&seF op a b c d)))
 by_cases h4:op=4
 ·subst h4;exact zmJ nn tx a b c d hs w
 by_cases h6:op=6
 ·subst h6;exact zmK nn tx a b c d hs w
 by_cases h19:op=19
 ·subst h19;exact zkX nn tx a b c d hs w
 by_cases h22:op=22
 ·subst h22;exact zkY nn tx a b c d hs w
 by_cases h5:op=5
 ·subst h5;exact zmL nn tx a b c d hs w
 by_cases h14:op=14
 ·subst h14;exact zkZ nn tx a b c d hs w
 by_cases h15:op=15
 ·subst h15;exact zk0 nn tx a b c d hs w
 by_cases h16:op=16
 ·subst h16;exact zk1 nn tx a b c d hs w
 by_cases h23:op=23
 ·subst h23;exact zk2 nn tx a b c d hs w
 exact ziF op nn tx a b c d hs h4 h6 h19 h22 h5 h14 h15 h16 h23 w
theorem Tryz.info3:(Tryz.prog.info? 3).map (fun i=>(i.zero,i.size,i.bytes))=some (some (.int .i64 0),1,8):=by kernel_rfl
def bgc (L:List Nd) (k:Nat):List Value:=(List.range k).map fun j=>.int .i64 (pt L j).1
def hic (L:List Nd) (k:Nat):List Value:=(List.range k).map fun j=>.int .i64 (pt L j).2.2
theorem zmM (L:List Nd) (k:Nat):bgc L (k+1)=bgc L k++[.int .i64 (pt L k).1]:=by unfold bgc;rw [List.range_succ,List.map_append];rfl
theorem zmN (L:List Nd) (k:Nat):hic L (k+1)=hic L k++[.int .i64 (pt L k).2.2]:=by unfold hic;rw [List.range_succ,List.map_append];rfl
theorem zdW {L:List Nd} {k j:Nat} (h:j<k):(bgc L k)[j]?=some (.int .i64 (pt L j).1):=by unfold bgc;rw [List.getElem?_map,List.getElem?_range h];rfl
theorem zpf {L:List Nd} {k j:Nat} (h:j<k):(hic L k)[j]?=some (.int .i64 (pt L j).2.2):=by unfold hic;rw [List.getElem?_map,List.getElem?_range h];rfl
structure AtF (L:List Nd) (w wr:World) (k:Nat) (v1 v2:Value):Prop where
 o1:wr.ownsRow w.heap.size 3 1 v1 k (bgc L k)
 o2:wr.ownsRow w.heap.size 3 1 v2 k (hic L k)
 ne:∀g,v1.ownBlock=some g->v2.ownBlock≠some g
 b:bW w wr
 e:∀j,j<k->er L j=0
theorem AtF.below {L:List Nd} {w wr w2:World} {k:Nat} {v1 v2:Value} (h:AtF L w wr k v1 v2) (hb:bW wr w2):AtF L w w2 k v1 v2 :=
 ⟨zbB h.o1 hb,zbB h.o2 hb,h.ne,h.b.trans (hb.mono h.b.size),h.e⟩
theorem AtF.form {L:List Nd} {w wr:World} {k:Nat} {v1 v2:Value} (h:AtF L w wr k v1 v2):∃A1 c1 A2 c2,v1=.slice A1 k c1/\v2=.slice A2 k c2/\(0<k->∃g1 g2,A1=some ⟨g1,0,none⟩/\A2=some ⟨g2,0,none⟩):=by
 obtain ⟨A1,c1,e1,q1⟩:∃A1 c1,v1=.slice A1 k c1/\(0<k->∃g,A1=some ⟨g,0,none⟩):=by
  rcases h.o1.2 with ⟨a,b⟩ | ⟨g,cap,cur,a,_⟩
  ·exact ⟨none,0,by rw [a,b],fun q=>by omega⟩
  ·exact ⟨_,cap,a,fun _=>⟨g,rfl⟩⟩
 obtain ⟨A2,c2,e2,q2⟩:∃A2 c2,v2=.slice A2 k c2/\(0<k->∃g,A2=some ⟨g,0,none⟩):=by
  rcases h.o2.2 with ⟨a,b⟩ | ⟨g,cap,cur,a,_⟩
  ·exact ⟨none,0,by rw [a,b],fun q=>by omega⟩
  ·exact ⟨_,cap,a,fun _=>⟨g,rfl⟩⟩
 exact ⟨A1,c1,A2,c2,e1,e2,fun q=>by
  obtain ⟨g1,h1⟩:=q1 q;obtain ⟨g2,h2⟩:=q2 q;exact ⟨g1,g2,h1,h2⟩⟩
def FrV (w w':World) (L:List Nd) (e:Ending):Prop :=
 (∃k,k<L.length/\(∀j,j<k->er L j=0)/\er L k≠0/\e=.returned (.tuple #[.slice none 0 0,.slice none 0 0,.int .i64 k,.int .i64 (er L k)])) ∨
 ((∀j,j<L.length->er L j=0)/\∃v1 v2,e=.returned (.tuple #[v1,v2,.int .i64 0,.int .i64 0])/\AtF L w w' L.length v1 v2)
theorem FrV.bad {w w':World} {L:List Nd} {k:Nat} {c:Int} (hk:k<L.length) (h:∀j,j<k->er L j=0) (he:er L k=c) (hc:c≠0):FrV w w' L (.returned (.tuple #[.slice none 0 0,.slice none 0 0,.int .i64 k,.int .i64 c])) :=
 .inl ⟨k,hk,h,by rw [he];exact hc,by rw [he]⟩
structure AtG (L:List Nd) (w wr:World) (k:Nat) (v1 v2:Value) (B:Nat) (n:Nd) (gp op:Nat):Prop where
 f:AtF L w wr k v1 v2
 x:NB wr B 0 n
 p:NdL wr gp op L
 lp:gp<w.heap.size
theorem AtG.below {L:List Nd} {w wr w2:World} {k:Nat} {v1 v2:Value} {B:Nat} {n:Nd} {gp op:Nat} (h:AtG L w wr k v1 v2 B n gp op) (hb:bW wr w2):AtG L w w2 k v1 v2 B n gp op :=
 ⟨h.f.below hb,h.x.below hb,h.p.same (hb.block _ (nM h.lp h.f.b.size)),h.lp⟩
theorem zmO (L:List Nd) (Ap:Option Addr) (cp:Nat) (hL:L.length<=2048) (hT:∀n∈L,n.tx.size<=140737488355328) (w:World) (hp:RdN w Ap L) :
  Cl 55 #[.slice Ap L.length cp] w fun e w'=>FrV w w' L e/\bW w w':=by
 have HP:Hid (RdN w Ap L):=hp;have HA:Hid (AtF L w w 0 (.slice none 0 0) (.slice none 0 0)):=⟨World.ownsRow_nil _ _ _ _,World.ownsRow_nil _ _ _ _,fun g q=>by simp [Value.ownBlock] at q,bR _ _,fun j q=>by omega⟩;have HG:Hid (∀k,k<L.length->∃n,L[k]?=some n/\n.tx.size<=140737488355328/\L≠[]):=fun k hk=>⟨_,gE hk,hT _ (List.getElem_mem hk),by rintro rfl;simp at hk⟩
 clear hT hp;obtain ⟨i0,hinf,hz0,hz1,hz2⟩:=info_parts Tryz.info3;go_enter Tryz.func55,Tryz.ntmps55;go_wp2_with fail;go_loopw [6,7,8] (fun v1 v2 t wr=>∃k:Nat,k<=L.length/\t=.int .i64 k/\Hid (AtF L w wr k v1 v2)) (fun _ _ t _=>L.length - (intOf t).toNat)
 case atStart=>exact ⟨0,by omega,by go_num,HA⟩
 case round =>
  obtain ⟨k,hk,rfl,HW⟩:=hrel;clear HA;by_cases hlt:k<L.length
  ·obtain ⟨n,hn,htx,hne⟩:=HG k hlt
   obtain ⟨gp,op,rfl,lp,cl⟩:=HP hne;have HNn:Hid (L[k]?=some n):=hn;have HFd:Hid (∀w,Cl 76 #[ndG n] w (rB w (.bool (fdF n)))):=fun w=>fieldR n htx w
   have HAr:Hid (∀w,Cl 75 #[.int .i64 n.op] w (rU w (.int .i64 (ar n.op)))):=fun w=>zid n.op w
   obtain ⟨c0,c1,c2,c3,c4,c5,c6⟩:=(cl.same (HW.b.block gp lp)) k n hn;have z0:(0:Int)<=(k:Int):=by omega
   have z1:(k:Int)<(L.length:Int):=by omega
   have HW2:Hid (AtG L w (wr.alloc (ndO n)) k _ _ wr.heap.size n gp op):=⟨HW.below (zaa wr (ndO n)),zjn wr n,(cl.same (HW.b.block gp lp)).same ((zaa wr (ndO n)).block gp (nM lp HW.b.size)),lp⟩;have HEr:Hid (er L k=if alE n≠0 then alE n else if (run L k).length<arN n.op then 42 else if 60<(pt L k).2.2 then 4 else 0):=zjl hn;clear hn hne cl HG HW HP;by_cases ha:ar n.op<0
   ·have HE:=(show Hid (er L k=40) from by
     show er L k=_
     have:alE n=40:=by unfold alE;rw [iP ha]
     rw [HEr.out,this];rfl)
    clear HEr HFd HNn;go_wp2_with fail;refine (HAr _).mono ?_;rintro e w2 ⟨rfl,rfl⟩;clear HAr c0 c1 c2 c3 c4 c5 c6;have za:decide (ar n.op<0)=true:=decide_eq_true ha;clear ha;generalize ar n.op=aa at *;go_wp2_with fail;refine bodyPost_ret (v:=.tuple #[.slice none 0 0,.slice none 0 0,.int .i64 k,.int .i64 40]) (by simp [results,Tryz.results55,go_sem]) rfl ⟨FrV.bad hlt HW2.f.e HE (by decide),HW2.f.b⟩
   ·have za:decide (ar n.op<0)=false:=dF ha
    cases hf:fdF n with
    | false =>
     have HE:=(show Hid (er L k=41) from by
      show er L k=_
      have:alE n=41:=by unfold alE;rw [iN ha,hf];rfl
      rw [HEr.out,this];rfl)
     clear HEr HNn ha;go_wp2_with fail;refine (HAr _).mono ?_;rintro e w2 ⟨rfl,rfl⟩;clear HAr c0 c1 c2 c3 c4 c5 c6;generalize ar n.op=aa at *;go_wp2_with fail;refine (HFd _).mono ?_;rintro e w3 ⟨rfl,b3⟩;have HW3:=hO (HW2.below b3);clear HW2 HFd b3;rw [hf];go_wp2_with fail;refine bodyPost_ret (v:=.tuple #[.slice none 0 0,.slice none 0 0,.int .i64 k,.int .i64 41]) (by simp [results,Tryz.results55,go_sem]) rfl ⟨FrV.bad hlt HW3.f.e HE (by decide),HW3.f.b⟩
    | true =>
     have hal:alE n=0:=by unfold alE;rw [iN ha,hf];rfl
     have HE2:Hid (er L k=if (run L k).length<arN n.op then 42 else if 60<(pt L k).2.2 then 4 else 0):=by show er L k=_;rw [HEr.out,iN (by rw [hal];simp)]
     have hrn:=zm8 hal;have ha2:=zfc n.op;clear HEr ha;rw [<-hrn] at HAr za;go_wp2_with fail;refine (HAr _).mono ?_;rintro e w2 ⟨rfl,rfl⟩;clear HAr c0 c1 c2 c3 c4 c5 c6 hrn hal;have HOp:Hid (zdF L k=n.op):=zic HNn.out;generalize haa:arN n.op=aa at *;have HAa:Hid (arN n.op=aa):=haa;clear haa;go_wp2_with fail;refine (HFd _).mono ?_;rintro e w3 ⟨rfl,b3⟩;have HW3:=hO (HW2.below b3);clear HW2 HFd b3;rw [hf];clear hf;obtain ⟨A1,k1,A2,k2,rfl,rfl,hfo⟩:=HW3.f.form;have HFo:Hid (0<k->∃g1 g2,A1=some ⟨g1,0,none⟩/\A2=some ⟨g2,0,none⟩):=hfo;have HCh:Hid (Chn L k (run L k)):=zgN L k hk HW3.f.e;have HPo:Hid (∀x∈run L k,1<=x.2.2/\x.2.2<=60/\x.2.1<k/\x=pt L x.2.1):=fun x hx=>⟨zpe hk HW3.f.e x hx,(zf3 hk HW3.f.e x hx).2.2.1,(zf3 hk HW3.f.e x hx).2.1,(zf3 hk HW3.f.e x hx).2.2.2⟩
     have HHb:Hid (∀i,hI L n.op aa (run L k) i<=60):=hI_bd L n.op aa (run L k) (fun x hx=>(HPo x hx).2.1);clear hfo;generalize hBz:wr.heap.size=Bz at *;clear hBz;go_wp2_with fail;go_loopw [11,12,13] (fun t u v wq=>∃i c:Nat,c+i=aa/\t=.int .i64 (atI k (run L k) i)/\u=.int .i64 (hI L n.op aa (run L k) i)/\v=.int .i64 c/\Hid (i<=(run L k).length)/\Hid (AtG L w wq k (.slice A1 k k1) (.slice A2 k k2) Bz n gp op)) (fun _ _ v _=>(intOf v).toNat)
     case atStart=>exact ⟨0,aa,by omega,rfl,rfl,rfl,Nat.zero_le _,HW3⟩
     case round =>
      obtain ⟨i,c,hc,rfl,rfl,rfl,HI,HW4⟩:=hrel;clear HW3;by_cases hc0:0<c
      ·have zc:(0:Int)<(c:Int):=by omega
       cases hst:(run L k).drop i with
       | nil =>
        have hat:atI k (run L k) i=0:=by
         have h:=zkW L k (run L k) HCh i HI.out;rw [hst] at h;exact h
        have hlen:(run L k).length<aa:=by
         have:=List.drop_eq_nil_iff.1 hst;omega
        have HE:Hid (er L k=42):=by show er L k=_;rw [HE2.out,iP hlen]
        have zt:(((atI k (run L k) i:Nat):Int)==0)=true:=by rw [hat];rfl
        clear hst hat hlen HE2 HCh HPo HHb HFo HAa HOp HNn HI;generalize atI k (run L k) i=ai at *;generalize hI L n.op aa (run L k) i=hi at *;go_wp2_with fail;refine bodyPost_ret (v:=.tuple #[.slice none 0 0,.slice none 0 0,.int .i64 k,.int .i64 42]) (by simp [results,Tryz.results55,go_sem]) rfl ⟨FrV.bad hlt HW4.f.e HE (by decide),HW4.f.b⟩
       | cons x r =>
        have hch:=zkW L k (run L k) HCh i HI.out;rw [hst] at hch;obtain ⟨q1,q2,q3,_⟩:=hch;have hi2:i<(run L k).length:=by
         have:=congrArg List.length hst;rw [List.length_drop,List.length_cons] at this;omega
        have hxi:(run L k)[i]?=some x:=by
         have:=List.getElem?_drop (xs:=run L k) (i:=i) (j:=0);rw [hst] at this
         simpa using this.symm
        obtain ⟨p1,p2,p3,hpx⟩:=HPo x (List.mem_of_getElem? hxi);have hk0:0<k:=by omega
        obtain ⟨g1,g2,rfl,rfl⟩:=HFo hk0;have ha1:atI k (run L k) (i+1)=x.1:=by rw [atI,hxi]
        have hh1:hI L n.op aa (run L k) (i+1)=max (hI L n.op aa (run L k) i) (if i+1=aa/\aa=2/\zdF L x.2.1=n.op then x.2.2 - 1 else x.2.2):=by rw [hI,hxi]
        have hbh:=HHb i;have e1:=HW4.f.o1.cells (g:=g1) rfl x.2.1 _ (zdW p3);have e2:=HW4.f.o2.cells (g:=g2) rfl x.2.1 _ (zpf p3);rw [Addr.add_lit,Nat.zero_add,<-q2] at e1 e2;have hy:L[x.2.1]?=some L[x.2.1]:=gE (by omega);have e3:=(HW4.p x.2.1 _ hy).c0;rw [<-zic hy] at e3;have e4:=HW4.x.c0;have zt:(((atI k (run L k) i:Nat):Int)==0)=false:=bF (by omega);have hsub:((atI k (run L k) i:Nat):Int) - 1=(x.2.1:Int):=by omega
        have zx:(0:Int)<=(x.2.1:Int):=by omega
        have zk:(x.2.1:Int)<(k:Int):=by omega
        have zl:(x.2.1:Int)<(L.length:Int):=by omega
        have HI2:Hid (i+1<=(run L k).length):=hi2;have HA1:=hO ha1;have HH1:=hO hh1;clear hst q1 q2 q3 hxi hy ha1 hh1 HE2 HCh HPo HHb HFo HAa HOp HNn HI hi2;generalize hat:atI k (run L k) i=ai at *;generalize hhi:hI L n.op aa (run L k) i=hi at *;clear hat hhi;obtain ⟨x1,x2,x3⟩:=x;simp only at p1 p2 p3 e1 e2 e3 hsub zx zk zl HA1 HH1 hpx;generalize hox:zdF L x2=ox at *;clear hox;have HX1:Hid ((pt L x2).1=x1):=by show (pt L x2).1=x1;rw [<-hpx]
        clear hpx e1;by_cases hg:c=1/\aa=2
        ·have t1:((c:Int)==1)=true:=beq_iff_eq.2 (by omega)
         have t2:((aa:Int)==2)=true:=beq_iff_eq.2 (by omega);by_cases ho:ox=n.op
         ·have HZ:Hid (hI L n.op aa (run L k) (i+1)=max hi (x3 - 1)):=by show hI L n.op aa (run L k) (i+1)=_;rw [HH1.out,iP ⟨by omega,hg.2,ho⟩]
          have t3:(ox==n.op)=true:=beq_iff_eq.2 ho;have hx3:((x3:Int) - 1)=((x3 - 1:Nat):Int):=by omega
          clear ho hg HH1;go_wp2_with fail;go_quiet (fail)
          have HW5:Hid (AtG L w (wr.drewN nq) k (.slice (some ⟨g1,0,none⟩) k k1) (.slice (some ⟨g2,0,none⟩) k k2) Bz n gp op):=HW4.below (below_drewN (bR _ _) _);clear HW4 e2 e3 e4;have e1:=HW5.f.o1.cells (g:=g1) rfl x2 _ (zdW p3);rw [Addr.add_lit,Nat.zero_add,HX1.out] at e1;generalize wr.drewN nq=w5 at *;go_wp2_with fail;go_roundw
          case rel =>
           refine ⟨i+1,c - 1,by omega,by rw [HA1.out],?_,by rw [show ((c:Int) - 1)=((c - 1:Nat):Int) from by omega],HI2,HW5⟩;rw [HZ.out];first | (rw [<-max_i];done) | rw [<-zey]
          case measure=>simp [intOf];omega
         ·have HZ:Hid (hI L n.op aa (run L k) (i+1)=max hi (x3)):=by show hI L n.op aa (run L k) (i+1)=_;rw [HH1.out,iN (fun q=>ho q.2.2)]
          have t3:(ox==n.op)=false:=bF ho;clear ho hg HH1;go_wp2_with fail;go_quiet (fail)
          have HW5:Hid (AtG L w (wr.drewN nq) k (.slice (some ⟨g1,0,none⟩) k k1) (.slice (some ⟨g2,0,none⟩) k k2) Bz n gp op):=HW4.below (below_drewN (bR _ _) _);clear HW4 e2 e3 e4;have e1:=HW5.f.o1.cells (g:=g1) rfl x2 _ (zdW p3);rw [Addr.add_lit,Nat.zero_add,HX1.out] at e1;generalize wr.drewN nq=w5 at *;go_wp2_with fail;go_roundw
          case rel =>
           refine ⟨i+1,c - 1,by omega,by rw [HA1.out],?_,by rw [show ((c:Int) - 1)=((c - 1:Nat):Int) from by omega],HI2,HW5⟩;rw [HZ.out];first | (rw [<-max_i];done) | rw [<-zey]
          case measure=>simp [intOf];omega
        ·by_cases hc1:c=1
         ·have t1:((c:Int)==1)=true:=beq_iff_eq.2 (by omega)
          have t2:((aa:Int)==2)=false:=bF (fun q=>hg ⟨hc1,by omega⟩);have HZ:Hid (hI L n.op aa (run L k) (i+1)=max hi (x3)):=by show hI L n.op aa (run L k) (i+1)=_;rw [HH1.out,iN (fun q=>hg ⟨hc1,q.2.1⟩)]
          clear hg HH1 hc1;go_wp2_with fail;go_quiet (fail)
          have HW5:Hid (AtG L w (wr.drewN nq) k (.slice (some ⟨g1,0,none⟩) k k1) (.slice (some ⟨g2,0,none⟩) k k2) Bz n gp op):=HW4.below (below_drewN (bR _ _) _);clear HW4 e2 e3 e4;have e1:=HW5.f.o1.cells (g:=g1) rfl x2 _ (zdW p3);rw [Addr.add_lit,Nat.zero_add,HX1.out] at e1;generalize wr.drewN nq=w5 at *;go_wp2_with fail;go_roundw
          case rel =>
           refine ⟨i+1,c - 1,by omega,by rw [HA1.out],?_,by rw [show ((c:Int) - 1)=((c - 1:Nat):Int) from by omega],HI2,HW5⟩;rw [HZ.out];first | (rw [<-max_i];done) | rw [<-zey]
          case measure=>simp [intOf];omega
         ·have t1:((c:Int)==1)=false:=bF (by omega)
          have HZ:Hid (hI L n.op aa (run L k) (i+1)=max hi (x3)):=by show hI L n.op aa (run L k) (i+1)=_;rw [HH1.out,iN (fun q=>hc1 (by have:=q.1;omega))]
          clear hg HH1 hc1;go_wp2_with fail;go_quiet (fail)
          have HW5:Hid (AtG L w (wr.drewN nq) k (.slice (some ⟨g1,0,none⟩) k k1) (.slice (some ⟨g2,0,none⟩) k k2) Bz n gp op):=HW4.below (below_drewN (bR _ _) _);clear HW4 e2 e3 e4;have e1:=HW5.f.o1.cells (g:=g1) rfl x2 _ (zdW p3);rw [Addr.add_lit,Nat.zero_add,HX1.out] at e1;generalize wr.drewN nq=w5 at *;go_wp2_with fail;go_roundw
          case rel =>
           refine ⟨i+1,c - 1,by omega,by rw [HA1.out],?_,by rw [show ((c:Int) - 1)=((c - 1:Nat):Int) from by omega],HI2,HW5⟩;rw [HZ.out];first | (rw [<-max_i];done) | rw [<-zey]
          case measure=>simp [intOf];omega
      ·obtain rfl:c=0:=by omega
       obtain rfl:i=aa:=by omega
       have HPt:=(show Hid (pt L k=(atI k (run L k) i,k,hI L n.op i (run L k) i+1)) from by
        show pt L k=_
        have h:=pt_at L k n.op (run L k) (by rw [HAa.out];exact HI.out) (fun x hx=>(HPo x hx).1);rw [HAa.out] at h;rw [<-h];unfold pt;rw [HOp.out])
       have HE3:=(show Hid (er L k=if 60<hI L n.op i (run L k) i+1 then 4 else 0) from by
        show er L k=_
        rw [HE2.out,iN (by have:=HI.out;omega),HPt.out])
       have hbh:=HHb i;have hab:atI k (run L k) i<=k:=by
        have h:=zkW L k (run L k) HCh i HI.out
        cases hd:(run L k).drop i with
        | nil=>rw [hd] at h;have e:atI k (run L k) i=0:=h;omega
        | cons y r=>rw [hd] at h;have:=(HPo y (List.mem_of_mem_drop (by rw [hd];simp))).2.2.1;have:=h.1;omega
       clear HE2 HCh HPo HHb HFo HAa HOp HNn HI;generalize atI k (run L k) i=ai at *;generalize hI L n.op i (run L k) i=hi at *;by_cases hd:60<hi+1
       ·have HE:Hid (er L k=4):=by show er L k=_;rw [HE3.out,iP hd]
        have zd:(60:Int)<(hi:Int)+1:=by omega
        clear HE3 HPt hd;go_wp2_with fail;refine bodyPost_ret (v:=.tuple #[.slice none 0 0,.slice none 0 0,.int .i64 k,.int .i64 4]) (by simp [results,Tryz.results55,go_sem]) rfl ⟨FrV.bad hlt HW4.f.e HE (by decide),HW4.f.b⟩
       ·have HE:=(show Hid (∀j,j<k+1->er L j=0) from fun j hj=>by
         by_cases q:j<k
         ·exact HW4.f.e j q
         ·obtain rfl:j=k:=by omega
          rw [HE3.out,iN hd])
        have zd:¬(60:Int)<(hi:Int)+1:=by omega
        clear HE3 hd;have HF:Hid (AtF L w wr k (.slice A1 k k1) (.slice A2 k k2)):=HW4.f;have hO1:=HW4.f.o1;have hbs:=HW4.f.b.size;clear HW4;go_wp2_with (at_builtin;refine wpList_append_lies _ rfl _ _ 45 rfl w.heap.size 3 i0 (.int .i64 0) 1 8 Tryz.underlying45 hinf hz0 hz1 hz2 rfl (by decide) _ _ _ rfl (hO1.alloc _) ⟨wr.heap.size,0,none⟩ 1 1 [.int .i64 ai] rfl rfl (cell_one_new _ _ _) ?c2 (by decide) ?c3 ?c4 ?c5 (wr.heap.size+1) (by simp) ?_)
        case c2=>first | rfl | (intro u hu;simp at hu;subst hu;rfl)
        case c3=>unfold maxLen;omega
        case c4=>omega
        case c5=>first | omega | (simp;omega)
        intro g cap w6 hown1 hgrow1 hat1 hlt1;have hO2:w6.ownsRow w.heap.size 3 1 (.slice A2 k k2) k (hic L k):=(HF.o2.alloc _).kept hgrow1 (by
         cases hv:(Value.slice A2 k k2).ownBlock with
         | none=>exact .inl rfl
         | some g2=>exact .inr (fun e=>HF.ne g2 e.symm hv))
        have HB6:Hid (bW w w6):=(HF.b.alloc hbs _).grown hgrow1 (by simp;omega) (fun j e=>(HF.o1.lt j e).1);have hb6:=HB6.size;have hs6:wr.heap.size+1<=w6.heap.size:=by have:=hgrow1.size;rw [sA] at this;exact this
        have HO1:Hid (w6.ownsRow w.heap.size 3 1 (.slice (some ⟨g,0,none⟩) (k+1) cap) (k+1) (bgc L (k+1))):=by rw [zmM,HPt.out];exact hown1
        have HX1:=(show Hid (∀j,(Value.slice A2 k k2).ownBlock=some j->j≠g/\j<w6.heap.size) from fun j hj=>by
         have hlt:=(HF.o2.lt j hj).2;refine ⟨?_,by omega⟩
         rcases hat1 with q | q
         ·rintro rfl
          exact HF.ne _ q hj
         ·omega)
        have HG6:Hid (g<w6.heap.size):=hlt1;clear hown1 hgrow1 hat1 hlt1 hO1 HF;go_wp2_with (at_builtin;refine wpList_append_lies _ rfl _ _ 45 rfl w.heap.size 3 i0 (.int .i64 0) 1 8 Tryz.underlying45 hinf hz0 hz1 hz2 rfl (by decide) _ _ _ rfl (hO2.alloc _) ⟨w6.heap.size,0,none⟩ 1 1 [.int .i64 ((hi:Int)+1)] rfl rfl (cell_one_new _ _ _) ?c2 (by decide) ?c3 ?c4 ?c5 (w6.heap.size+1) (by simp) ?_)
        case c2=>first | rfl | (intro u hu;simp at hu;subst hu;rfl)
        case c3=>unfold maxLen;omega
        case c4=>omega
        case c5=>first | omega | (simp;omega)
        intro g' cap' w7 hown2 hgrow2 hat2 hlt2;have HW7:=(show Hid (AtF L w w7 (k+1) (.slice (some ⟨g,0,none⟩) (k+1) cap) (.slice (some ⟨g',0,none⟩) (k+1) cap')) from by
         refine ⟨(HO1.alloc _).kept hgrow2 (.inr ?_),?_,?_,(HB6.alloc hb6 _).grown hgrow2 (by simp;omega) (fun j e=>(hO2.lt j e).1),HE.out⟩
         ·intro e
          exact (HX1 g e.symm).1 rfl
         ·rw [zmN,HPt.out]
          have hcst:(((hi+1:Nat):Nat):Int)=(hi:Int)+1:=by omega
          show w7.ownsRow _ _ _ _ _ (hic L k++[.int .i64 ((hi+1:Nat):Int)])
          rw [hcst];exact hown2
         ·intro j e1 e2
          have q1:g=j:=Option.some.inj e1;have q2:g'=j:=Option.some.inj e2
          rcases hat2 with q | q
          ·exact (HX1 g' q).1 (by rw [q1,q2])
          ·have:=HG6.out;omega)
        clear hown2 hgrow2 hat2 hlt2 hO2 HX1 HG6 HO1 HB6 HPt HE;go_wp2_with fail;go_roundw
        case rel=>exact ⟨k+1,by omega,by go_num,HW7⟩
        case measure=>simp [intOf];omega
  ·obtain rfl:k=L.length:=by omega
   clear HG HP;go_wp2_with fail;refine bodyPost_ret (v:=.tuple #[u6,u7,.int .i64 0,.int .i64 0]) (by simp [results,Tryz.results55,go_sem]) rfl ⟨.inr ⟨HW.e,_,_,rfl,HW.out⟩,HW.b⟩
theorem zpg {L:List Nd} {m:Nat} (hm:L.length=m+1) (h:∀j,j<L.length->er L j=0):(run L L.length).length=1↔(pt L m).1=0:=by
 have hc:=zgN L L.length (nL _) h;rw [hm] at hc ⊢;rw [zeh] at hc ⊢;have h2:=hc.2.2.2
 cases hd:(run L m).drop (arN (zdF L m)) with
 | nil=>rw [hd] at h2;exact ⟨fun _=>h2,fun _=>rfl⟩
 | cons x r =>
  rw [hd] at h2;have:=h2.1
  constructor
  ·intro e;simp at e
  ·intro e;omega
theorem ziG (L:List Nd) (Ap:Option Addr) (cp:Nat) (hL:L.length<=140737488355328) (hT:∀n∈L,n.tx.size<=140737488355328) (w:World) (hp:RdN w Ap L) :
  Cl 30 #[.slice Ap L.length cp] w (rB w (.tuple #[.int .i64 (ck L).1,.int .i64 (ck L).2])):=by
 by_cases hlong:2048<L.length
 ·have HE:Hid (ck L=(0,2)):=zjk hlong
  have z:(2048:Int)<(L.length:Int):=by omega
  clear hT hp;go_enter Tryz.func30,Tryz.ntmps30;go_wp2_with fail;go_ret2
  exact ⟨by rw [HE.out];rfl,bR _ _⟩
 have z:¬(2048:Int)<(L.length:Int):=by omega
 have HF:Hid (∀_:Unit,Cl 55 #[.slice Ap L.length cp] w fun e w'=>FrV w w' L e/\bW w w'):=fun _=>zmO L Ap cp (by omega) hT w hp
 clear hT hp;have HN:Hid (¬2048<L.length):=hlong;clear hlong;go_enter Tryz.func30,Tryz.ntmps30;go_wp2_with fail;refine (HF ()).mono ?_;rintro e w2 ⟨hv,b2⟩;have HB:Hid (bW w w2):=b2;clear HF b2
 rcases hv with ⟨k,hk,h1,h2,rfl⟩ | ⟨h1,v1,v2,rfl,h2⟩
 ·have HE:Hid (ck L=(k,er L k)):=zhz HN hk h1 h2
  have t1:(er L k != 0)=true:=by rw [bne,bF h2];rfl
  clear h1 h2 HN;generalize er L k=ek at *;go_wp2_with fail;go_ret2
  exact ⟨by rw [HE.out];rfl,HB.out⟩
 ·have HE:Hid (ck L=if (run L L.length).length=1 then (0,0) else (L.length,42)):=zm7 HN h1
  obtain ⟨A1,c1,A2,c2,rfl,rfl,hf⟩:=h2.form;by_cases h0:L.length=0
  ·have HE2:=(show Hid (ck L=(L.length,42)) from by
    show ck L=_
    rw [HE.out,iN];rw [List.eq_nil_of_length_eq_zero h0];simp [run])
   have t0:((L.length:Int)==0)=true:=beq_iff_eq.2 (by omega);clear h1 h2 hf h0 HE HN;go_wp2_with fail;go_ret2
   exact ⟨by rw [HE2.out];rfl,HB.out⟩
  ·obtain ⟨m,hm⟩:∃m,L.length=m+1:=⟨L.length - 1,by omega⟩
   obtain ⟨g1,g2,rfl,rfl⟩:=hf (by omega);have hone:=zpg hm h1;have e1:=h2.o1.cells (g:=g1) rfl m _ (zdW (by omega));rw [Addr.add_lit,Nat.zero_add] at e1;have t0:((L.length:Int)==0)=false:=bF (by omega);have hs:(L.length:Int) - 1=(m:Int):=by omega
   have zm:(0:Int)<=(m:Int):=by omega
   have zl:(m:Int)<(L.length:Int):=by omega
   by_cases hp0:(pt L m).1=0
   ·have HE2:Hid (ck L=(0,0)):=by show ck L=_;rw [HE.out,iP (hone.2 hp0)]
    have t2:(((pt L m).1:Int) != 0)=false:=by rw [hp0];rfl
    clear h1 h2 hf h0 HE HN hm hone hp0;generalize (pt L m).1=q at *;go_wp2_with fail;go_ret2
    exact ⟨by rw [HE2.out];rfl,HB.out⟩
   ·have HE2:Hid (ck L=(L.length,42)):=by show ck L=_;rw [HE.out,iN (fun q=>hp0 (hone.1 q))]
    have t2:(((pt L m).1:Int) != 0)=true:=by rw [bne,bF (by omega)];rfl
    clear h1 h2 hf h0 HE HN hm hone hp0;generalize (pt L m).1=q at *;go_wp2_with fail;go_ret2
    exact ⟨by rw [HE2.out];rfl,HB.out⟩
theorem zhY {W:World} {B n:Nat} {v:Value} {L:List Nd} (h:W.ownsRow B 65 7 v n (ndc L)) (hn:n=L.length):∃A c,v=.slice A L.length c/\RdN W A L:=by
 subst hn;have hc:=h
 rcases h.2 with ⟨rfl,h0⟩ | ⟨g,cap,cur,rfl,_⟩
 ·exact ⟨none,0,by rw [h0],fun hl=>absurd (List.eq_nil_of_length_eq_zero h0) hl⟩
 ·have hc2:W.ownsRow B 65 7 (.slice (some ⟨g,0,none⟩) L.length cap) L.length (ndc L++[]):=by rw [List.append_nil];exact hc
  exact ⟨_,cap,rfl,fun _=>⟨g,0,rfl,(hc.lt g rfl).2,zjr hc2⟩⟩
theorem ziH {F:Nat} (hen:∀args w,(callFunc F args).run Tryz.prog w=.ok (.enter F args) w) {ops:Array Oper} {o:Oper} {a:Act} {w:World} {K:Act->World->Prop} {Q:Exit->Act->World->Prop} {E:Prop} (hgd:o.guard=none) (x:Operand) (T:TypeId) (ho:o.op=.call { callee:=.value (.func F),args:=#[x],argTypes:=#[T] }) (v:Value) (hx:a.eval x=v)
  (hc:Cl F #[v] w fun e w'=>∃r,e=.returned r/\K (a.put o.dst r) w') :
  if Region.wanted o (yielded ops a.tmps)=true then Oper.wp Tryz.prog o a w K Q else E:=by
 have hw:Region.wanted o (yielded ops a.tmps)=true:=by simp [Region.wanted,hgd]
 rw [iP hw];have he:(execOp a.eval o).run Tryz.prog w=.ok (.enter F #[v]) w:=by
  unfold execOp;simp [ho,go_sem,invoke,hen]
  rw [<-hx]
  cases x <;> simp [Act.eval]
 unfold Oper.wp;rw [he,Oper.upon_enter];refine hc.mono ?_;rintro e w' ⟨r,rfl,hk⟩;exact hk
end Go.Proofs.YtkihfkcmcdiajabGreatDoor.T
